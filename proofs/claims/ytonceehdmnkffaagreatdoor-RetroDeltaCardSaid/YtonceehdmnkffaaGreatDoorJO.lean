/-
  Promise N1: one error alone is a plan's.
  Promise N1: the reference's CheckPlan: where something is wrong ahead of the inputs.
  Promise N1: the reference's CheckPlan: the inputs, and how lines are bound.
  Promise N1: the reference's CheckPlan, whole.
  Promise N2: what is reckoned is one answer: said without memory.
  What must be in any case of plans: the plan that is asked, and its answers: said without memory.
  What must be in any case of plans (retroBegun): its walk: it is so.
  A plan that is handed in: how it is opened.
-/
import Derived.Test.YtonceehdmnkffaaGreatDoorJM
import Derived.Test.YtonceehdmnkffaaGreatDoorJE
import Derived.Test.YtonceehdmnkffaaGreatDoorJN
import Derived.Test.YtonceehdmnkffaaGreatDoorJL
namespace Go.Proofs.YtonceehdmnkffaaGreatDoor
open Go.RowKit

theorem PlanIs.unique {p : Pl} {e e' : Int} (h : PlanIs p e) (h' : PlanIs p e') : e = e' := by
  rcases h with ⟨a1, a2⟩ | ⟨a1, a2, a3⟩ | ⟨a1, a2, a3, a4⟩ | ⟨a1, a2, a3, a4, a5, a6⟩ | ⟨a1, a2, a3, a4, a5, i, a6⟩ <;>
    rcases h' with ⟨b1, b2⟩ | ⟨b1, b2, b3⟩ | ⟨b1, b2, b3, b4⟩ | ⟨b1, b2, b3, b4, b5, b6⟩ | ⟨b1, b2, b3, b4, b5, j, b6⟩ <;>
    first
      | exact (a6.unique b6).2
      | omega
end Go.Proofs.YtonceehdmnkffaaGreatDoor
set_option linter.unusedSimpArgs false
namespace Go.Proofs.YtonceehdmnkffaaGreatDoor
open Go.RowKit Go.Sort

set_option maxRecDepth 100000 in
set_option maxHeartbeats 2000000 in
theorem checkPlan_sched (p : Pl) (al at' ai : Option Addr) (nl nt ni cl ct ci : Nat) (w : World) (hz : Cal.schedE p.K p.A p.L ≠ 0) (hni : ni ≤ 9223372036854775807) :
    Calls Tryz.prog 12 #[.agg #[.int .i64 p.K, .int .i64 p.A, .int .i64 p.L, .slice al nl cl, .slice at' nt ct, .slice ai ni ci]] w fun e w' => PlanRet w p e w' := by
  have HZ := Lib.hid hz
  have hzB : decide (Cal.schedE p.K p.A p.L = 0) = false := decide_eq_false hz
  have hzC : (Cal.schedE p.K p.A p.L == 0) = false := by simp [hz]
  have HB0 := Lib.hid (kbelow_box w (.cells #[.int .i64 p.K, .int .i64 p.A, .int .i64 p.L, .slice al nl cl, .slice at' nt ct, .slice ai ni ci] 28))
  have HP0 := Lib.hid (PBox.made w p.K p.A p.L al at' ai nl nt ni cl ct ci)
  obtain ⟨_, x0, x1, x2, x3, x4, x5⟩ := HP0.out
  clear hz
  go_enter Tryz.func12, Tryz.ntmps12
  go_wp2_with fail
  refine (Cal.check_ref p.K p.A p.L _).mono ?_
  rintro e w1 ⟨rfl, hb1⟩
  have HB1 := Lib.hid (HB0.out.trans (hb1.mono HB0.out.size))
  have HP1 := Lib.hid (HP0.out.below hb1 HP0.out.1)
  clear hb1 HP0 HB0 x0 x1 x2 x3 x4 x5
  obtain ⟨_, x0, x1, x2, x3, x4, x5⟩ := HP1.out
  have HBY := Lib.hid (kbelow_box w1 (.cells #[.slice none 0 0, .slice at' nt ct, .slice none 0 0] 75))
  have HPK := Lib.hid (HP1.out.below HBY.out HP1.out.1)
  have HBK := Lib.hid (HB1.out.trans (HBY.out.mono HB1.out.size))
  go_wp2_with fail
  clear x0 x1 x2 x3 x4 x5
  go_loopw [3, 5] (fun ev i wr => ev = .int .i64 (Cal.schedE p.K p.A p.L) ∧ i = .int .i64 0 ∧ PBox wr w.heap.size p.K p.A p.L al at' ai nl nt ni cl ct ci ∧ Below w.heap.size w wr) (fun _ _ _ => 0)
  case atStart => exact ⟨rfl, rfl, HPK.out, HBK.out⟩
  case round =>
    obtain ⟨rfl, rfl, hpb, hb⟩ := hrel
    have HB := Lib.hid hb
    obtain ⟨_, x0, x1, x2, x3, x4, x5⟩ := hpb
    clear hb
    by_cases hni0 : (0 : Int) < (ni : Int)
    · go_wp2_with fail
      go_ret
      exact ⟨_, rfl, .inl ⟨HZ.out, rfl⟩, HB.out⟩
    · have hni0' : decide ((0 : Int) < (ni : Int)) = false := decide_eq_false hni0
      first
        | (exfalso; omega)
        | (go_wp2_with fail
           go_ret
           exact ⟨_, rfl, .inl ⟨HZ.out, rfl⟩, HB.out⟩)
set_option maxRecDepth 100000 in
set_option maxHeartbeats 2000000 in
theorem checkPlan_lines (p : Pl) (al at' ai : Option Addr) (nl nt ni cl ct ci : Nat) (w : World) (hc : CameP w al at' ai p) (h1 : p.lns.length = nl) (hz : Cal.schedE p.K p.A p.L = 0) (hl : linesE p.lns ≠ 0) (hni : ni ≤ 9223372036854775807) :
    Calls Tryz.prog 12 #[.agg #[.int .i64 p.K, .int .i64 p.A, .int .i64 p.L, .slice al nl cl, .slice at' nt ct, .slice ai ni ci]] w fun e w' => PlanRet w p e w' := by
  have HZ := Lib.hid hz
  have HC := Lib.hid hc
  have H1 := Lib.hid h1
  have HL := Lib.hid hl
  have hlB : decide (linesE p.lns = 0) = false := decide_eq_false hl
  have hlC : (linesE p.lns == 0) = false := by simp [hl]
  clear hz hc h1 hl
  have HB0 := Lib.hid (kbelow_box w (.cells #[.int .i64 p.K, .int .i64 p.A, .int .i64 p.L, .slice al nl cl, .slice at' nt ct, .slice ai ni ci] 28))
  have HP0 := Lib.hid (PBox.made w p.K p.A p.L al at' ai nl nt ni cl ct ci)
  obtain ⟨_, x0, x1, x2, x3, x4, x5⟩ := HP0.out
  go_enter Tryz.func12, Tryz.ntmps12
  go_wp2_with fail
  refine (Cal.check_ref p.K p.A p.L _).mono ?_
  rintro e w1 ⟨rfl, hb1⟩
  rw [HZ.out]
  have HB1 := Lib.hid (HB0.out.trans (hb1.mono HB0.out.size))
  have HP1 := Lib.hid (HP0.out.below hb1 HP0.out.1)
  clear hb1 HP0 HB0 x0 x1 x2 x3 x4 x5
  obtain ⟨_, x0, x1, x2, x3, x4, x5⟩ := HP1.out
  go_wp2_with fail
  refine (checkLines_ref al nl cl p.lns _ (HC.out.l.below HB1.out) H1.out (by rw [← H1.out]; exact HC.out.ml)).mono ?_
  rintro e w2 ⟨rfl, hb2⟩
  have HB2 := Lib.hid (HB1.out.trans (hb2.mono HB1.out.size))
  have HP2 := Lib.hid (HP1.out.below hb2 HP1.out.1)
  clear hb2 HP1 HB1 x0 x1 x2 x3 x4 x5
  obtain ⟨_, x0, x1, x2, x3, x4, x5⟩ := HP2.out
  have HBY := Lib.hid (kbelow_box w2 (.cells #[.slice none 0 0, .slice at' nt ct, .slice none 0 0] 75))
  have HPK := Lib.hid (HP2.out.below HBY.out HP2.out.1)
  have HBK := Lib.hid (HB2.out.trans (HBY.out.mono HB2.out.size))
  go_wp2_with fail
  clear x0 x1 x2 x3 x4 x5
  go_loopw [3, 5] (fun ev i wr => ev = .int .i64 (linesE p.lns) ∧ i = .int .i64 0 ∧ PBox wr w.heap.size p.K p.A p.L al at' ai nl nt ni cl ct ci ∧ Below w.heap.size w wr) (fun _ _ _ => 0)
  case atStart => exact ⟨rfl, rfl, HPK.out, HBK.out⟩
  case round =>
    obtain ⟨rfl, rfl, hpb, hb⟩ := hrel
    have HB := Lib.hid hb
    obtain ⟨_, x0, x1, x2, x3, x4, x5⟩ := hpb
    clear hb
    by_cases hni0 : (0 : Int) < (ni : Int)
    · go_wp2_with fail
      go_ret
      exact ⟨_, rfl, .inr (.inl ⟨HZ.out, HL.out, rfl⟩), HB.out⟩
    · have hni0' : decide ((0 : Int) < (ni : Int)) = false := decide_eq_false hni0
      first
        | (exfalso; omega)
        | (go_wp2_with fail
           go_ret
           exact ⟨_, rfl, .inr (.inl ⟨HZ.out, HL.out, rfl⟩), HB.out⟩)
set_option maxRecDepth 100000 in
set_option maxHeartbeats 2000000 in
theorem checkPlan_many (p : Pl) (al at' ai : Option Addr) (nl nt ni cl ct ci : Nat) (w : World) (hc : CameP w al at' ai p) (h1 : p.lns.length = nl) (h3 : p.ins.length = ni) (hz : Cal.schedE p.K p.A p.L = 0) (hl : linesE p.lns = 0) (hm : 30 < nl ∨ 30 < ni) (hni : ni ≤ 9223372036854775807) (hnl : nl ≤ 9223372036854775807) :
    Calls Tryz.prog 12 #[.agg #[.int .i64 p.K, .int .i64 p.A, .int .i64 p.L, .slice al nl cl, .slice at' nt ct, .slice ai ni ci]] w fun e w' => PlanRet w p e w' := by
  have HZ := Lib.hid hz
  have HC := Lib.hid hc
  have H1 := Lib.hid h1
  have H3 := Lib.hid h3
  have HL := Lib.hid hl
  have HM : Hid (30 < p.lns.length ∨ 30 < p.ins.length) := Lib.hid (by rw [h1, h3]; exact hm)
  clear hz hc h1 hl h3
  have HB0 := Lib.hid (kbelow_box w (.cells #[.int .i64 p.K, .int .i64 p.A, .int .i64 p.L, .slice al nl cl, .slice at' nt ct, .slice ai ni ci] 28))
  have HP0 := Lib.hid (PBox.made w p.K p.A p.L al at' ai nl nt ni cl ct ci)
  obtain ⟨_, x0, x1, x2, x3, x4, x5⟩ := HP0.out
  go_enter Tryz.func12, Tryz.ntmps12
  go_wp2_with fail
  refine (Cal.check_ref p.K p.A p.L _).mono ?_
  rintro e w1 ⟨rfl, hb1⟩
  rw [HZ.out]
  have HB1 := Lib.hid (HB0.out.trans (hb1.mono HB0.out.size))
  have HP1 := Lib.hid (HP0.out.below hb1 HP0.out.1)
  clear hb1 HP0 HB0 x0 x1 x2 x3 x4 x5
  obtain ⟨_, x0, x1, x2, x3, x4, x5⟩ := HP1.out
  go_wp2_with fail
  refine (checkLines_ref al nl cl p.lns _ (HC.out.l.below HB1.out) H1.out (by rw [← H1.out]; exact HC.out.ml)).mono ?_
  rintro e w2 ⟨rfl, hb2⟩
  have HB2 := Lib.hid (HB1.out.trans (hb2.mono HB1.out.size))
  have HP2 := Lib.hid (HP1.out.below hb2 HP1.out.1)
  clear hb2 HP1 HB1 x0 x1 x2 x3 x4 x5
  obtain ⟨_, x0, x1, x2, x3, x4, x5⟩ := HP2.out
  have HBY := Lib.hid (kbelow_box w2 (.cells #[.slice none 0 0, .slice at' nt ct, .slice none 0 0] 75))
  have HPK := Lib.hid (HP2.out.below HBY.out HP2.out.1)
  have HBK := Lib.hid (HB2.out.trans (HBY.out.mono HB2.out.size))
  rw [HL.out]
  by_cases hn : 30 < nl
  · have hn' : decide ((30 : Int) < (nl : Int)) = true := decide_eq_true (by omega)
    go_wp2_with fail
    clear x0 x1 x2 x3 x4 x5
    go_loopw [3, 5] (fun ev i wr => ev = .int .i64 2 ∧ i = .int .i64 0 ∧ PBox wr w.heap.size p.K p.A p.L al at' ai nl nt ni cl ct ci ∧ Below w.heap.size w wr) (fun _ _ _ => 0)
    case atStart => exact ⟨rfl, rfl, HPK.out, HBK.out⟩
    case round =>
      obtain ⟨rfl, rfl, hpb, hb⟩ := hrel
      have HB := Lib.hid hb
      obtain ⟨_, x0, x1, x2, x3, x4, x5⟩ := hpb
      clear hb
      by_cases hni0 : (0 : Int) < (ni : Int)
      · go_wp2_with fail
        go_ret
        exact ⟨_, rfl, .inr (.inr (.inl ⟨HZ.out, HL.out, HM.out, rfl⟩)), HB.out⟩
      · have hni0' : decide ((0 : Int) < (ni : Int)) = false := decide_eq_false hni0
        first
          | (exfalso; omega)
          | (go_wp2_with fail
             go_ret
             exact ⟨_, rfl, .inr (.inr (.inl ⟨HZ.out, HL.out, HM.out, rfl⟩)), HB.out⟩)
  · have hn' : decide ((30 : Int) < (nl : Int)) = false := decide_eq_false (by omega)
    have hn2 : decide ((30 : Int) < (ni : Int)) = true := decide_eq_true (by omega)
    go_wp2_with fail
    clear x0 x1 x2 x3 x4 x5
    go_loopw [3, 5] (fun ev i wr => ev = .int .i64 2 ∧ i = .int .i64 0 ∧ PBox wr w.heap.size p.K p.A p.L al at' ai nl nt ni cl ct ci ∧ Below w.heap.size w wr) (fun _ _ _ => 0)
    case atStart => exact ⟨rfl, rfl, HPK.out, HBK.out⟩
    case round =>
      obtain ⟨rfl, rfl, hpb, hb⟩ := hrel
      have HB := Lib.hid hb
      obtain ⟨_, x0, x1, x2, x3, x4, x5⟩ := hpb
      clear hb
      by_cases hni0 : (0 : Int) < (ni : Int)
      · go_wp2_with fail
        go_ret
        exact ⟨_, rfl, .inr (.inr (.inl ⟨HZ.out, HL.out, HM.out, rfl⟩)), HB.out⟩
      · have hni0' : decide ((0 : Int) < (ni : Int)) = false := decide_eq_false hni0
        first
          | (exfalso; omega)
          | (go_wp2_with fail
             go_ret
             exact ⟨_, rfl, .inr (.inr (.inl ⟨HZ.out, HL.out, HM.out, rfl⟩)), HB.out⟩)
end Go.Proofs.YtonceehdmnkffaaGreatDoor
set_option linter.unusedSimpArgs false
namespace Go.Proofs.YtonceehdmnkffaaGreatDoor
open Go.RowKit Go.Sort

theorem hisE_stay {l : List In} {k : Nat} (h : hisE l k ≠ 0) : ∀ n, k ≤ n → hisE l n = hisE l k
  | 0, hn => by have : k = 0 := by omega
                subst this; rfl
  | n + 1, hn => by
    by_cases e : k = n + 1
    · subst e; rfl
    · have ih := hisE_stay h n (by omega)
      rw [hisE, if_neg (by rw [ih]; exact h), ih]
set_option maxRecDepth 100000 in
set_option maxHeartbeats 2000000 in
theorem checkPlan_ins (p : Pl) (al at' ai : Option Addr) (nl nt ni cl ct ci : Nat) (w : World) (hc : CameP w al at' ai p) (h1 : p.lns.length = nl) (h2 : p.tbs.length = nt) (h3 : p.ins.length = ni) (hz : Cal.schedE p.K p.A p.L = 0) (hl : linesE p.lns = 0) (hnl : nl ≤ 30) (hni : ni ≤ 30) :
    Calls Tryz.prog 12 #[.agg #[.int .i64 p.K, .int .i64 p.A, .int .i64 p.L, .slice al nl cl, .slice at' nt ct, .slice ai ni ci]] w fun e w' => PlanRet w p e w' := by
  have HZ := Lib.hid hz
  have HC := Lib.hid hc
  have H1 := Lib.hid h1
  have H2 := Lib.hid h2
  have H3 := Lib.hid h3
  have HL := Lib.hid hl
  have HO := Lib.hid (fun h0 => hc.i.open h3 h0)
  have hn1 : decide ((30 : Int) < (nl : Int)) = false := decide_eq_false (by omega)
  have hn2 : decide ((30 : Int) < (ni : Int)) = false := decide_eq_false (by omega)
  clear hz hc h1 h2 h3 hl
  have HB0 := Lib.hid (kbelow_box w (.cells #[.int .i64 p.K, .int .i64 p.A, .int .i64 p.L, .slice al nl cl, .slice at' nt ct, .slice ai ni ci] 28))
  have HP0 := Lib.hid (PBox.made w p.K p.A p.L al at' ai nl nt ni cl ct ci)
  obtain ⟨_, x0, x1, x2, x3, x4, x5⟩ := HP0.out
  go_enter Tryz.func12, Tryz.ntmps12
  go_wp2_with fail
  refine (Cal.check_ref p.K p.A p.L _).mono ?_
  rintro e w1 ⟨rfl, hb1⟩
  rw [HZ.out]
  have HB1 := Lib.hid (HB0.out.trans (hb1.mono HB0.out.size))
  have HP1 := Lib.hid (HP0.out.below hb1 HP0.out.1)
  clear hb1 HP0 HB0 x0 x1 x2 x3 x4 x5
  obtain ⟨_, x0, x1, x2, x3, x4, x5⟩ := HP1.out
  go_wp2_with fail
  refine (checkLines_ref al nl cl p.lns _ (HC.out.l.below HB1.out) H1.out (by rw [← H1.out]; exact HC.out.ml)).mono ?_
  rintro e w2 ⟨rfl, hb2⟩
  rw [HL.out]
  have HB2 := Lib.hid (HB1.out.trans (hb2.mono HB1.out.size))
  have HP2 := Lib.hid (HP1.out.below hb2 HP1.out.1)
  clear hb2 HP1 HB1 x0 x1 x2 x3 x4 x5
  obtain ⟨_, x0, x1, x2, x3, x4, x5⟩ := HP2.out
  have HBY := Lib.hid (kbelow_box w2 (.cells #[.slice none 0 0, .slice at' nt ct, .slice none 0 0] 75))
  have HPK := Lib.hid (HP2.out.below HBY.out HP2.out.1)
  have HBK := Lib.hid (HB2.out.trans (HBY.out.mono HB2.out.size))
  have HKA := Lib.hid (KAt.made w2 (.slice none 0 0) (.slice at' nt ct) (.slice none 0 0) 75)
  have hkf : (w2.alloc (.cells #[.slice none 0 0, .slice at' nt ct, .slice none 0 0] 75)).frozen? ⟨w2.heap.size, 0, none⟩ = false := by simp
  have hs2 : (w2.alloc (.cells #[.slice none 0 0, .slice at' nt ct, .slice none 0 0] 75)).heap.size = w2.heap.size + 1 := by simp
  have hwp : w.heap.size < w2.heap.size := HP2.out.1
  go_wp2_with fail
  clear x0 x1 x2 x3 x4 x5
  generalize (w2.alloc (.cells #[.slice none 0 0, .slice at' nt ct, .slice none 0 0] 75)) = wk at *
  go_loopw [3, 5] (fun ev i wr => ∃ (k : Nat) (u : Value), k ≤ ni ∧ i = .int .i64 k ∧ ev = .int .i64 (hisE p.ins k) ∧ KAt wr w2.heap.size u (.slice at' nt ct) (.slice none 0 0) ∧ wr.frozen? ⟨w2.heap.size, 0, none⟩ = false ∧ GrowA wr (w2.heap.size + 1) u (inAms p.ins (fun _ => 0) k) ∧ PBox wr w.heap.size p.K p.A p.L al at' ai nl nt ni cl ct ci ∧ Below w2.heap.size w2 wr ∧ w2.heap.size + 1 ≤ wr.heap.size) (fun _ i _ => ni - (intOf i).toNat)
  case atStart => exact ⟨0, _, Nat.zero_le _, rfl, rfl, HKA.out, hkf, GrowA.nil _ _, HPK.out, HBY.out, by omega⟩
  case round =>
    clear HKA hkf HPK HBY HBK hs2
    obtain ⟨k, u, hk, rfl, rfl, hka, hkf, hgr, hpb, hb, hsz⟩ := hrel
    have HG := Lib.hid hgr
    have HP := Lib.hid hpb
    have HB := Lib.hid hb
    have HBW := Lib.hid (HB2.out.trans (hb.mono HB2.out.size))
    obtain ⟨hkl, k0, k1, k2⟩ := hka
    obtain ⟨_, x0, x1, x2, x3, x4, x5⟩ := HP.out
    clear hgr hpb hb
    by_cases hlt : k < ni
    · have hlt' : (k : Int) < (ni : Int) := by omega
      by_cases hz0 : hisE p.ins k = 0
      · have HZ0 := Lib.hid hz0
        rw [hz0]
        obtain ⟨b, off, rfl, hcell⟩ := HO.out (by omega)
        obtain ⟨aj, cj, y0, y1, hcr, hns, hrm⟩ := hcell wr HBW.out k hlt
        obtain ⟨nm, hnm⟩ : ∃ nm, (inth p.ins k).name = nm := ⟨_, rfl⟩
        obtain ⟨rs, hrs⟩ : ∃ rs, (inth p.ins k).rows = rs := ⟨_, rfl⟩
        rw [hnm] at y0
        rw [hrs] at y1 hcr hrm
        obtain ⟨m, hm⟩ : ∃ m, rs.length = m := ⟨_, rfl⟩
        rw [hm] at y1 hrm
        have HNM := Lib.hid hnm
        have HRS := Lib.hid hrs
        have HRN := Lib.hid hm
        have HCR := Lib.hid hcr
        have HRM := Lib.hid hrm
        clear hcell hns hnm hrs hm hcr hrm hz0
        go_wp2_with fail
        refine (Hst.check_ref aj m cj rs _ HCR.out HRN.out HRM.out).mono ?_
        rintro e w4 ⟨rfl, hb4⟩
        have hbl : b < w2.heap.size := by
          rcases HC.out.i with h | ⟨b', off', e, h, _⟩
          · have := H3.out; omega
          · injection e with e; injection e with e1 _ _; subst e1; exact Nat.lt_of_lt_of_le h HB2.out.size
        have HBX := Lib.hid (hb4.trans ((kbelow_box w4 (.cells #[.string nm, .int .i64 0] 72)).mono hb4.size))
        have HG5 : Hid (GrowA ((w4.alloc (.cells #[.string nm, .int .i64 0] 72)).drew) (w2.heap.size + 1) u (inAms p.ins (fun _ => 0) k)) := HG.out.below (kbelow_dN HBX.out 1)
        have HAB : Hid (AAt ((w4.alloc (.cells #[.string nm, .int .i64 0] 72)).drew) w4.heap.size 0 [⟨nm, 0⟩]) := aat_box w4 nm 0
        have HS5 : Hid (w2.heap.size + 1 ≤ ((w4.alloc (.cells #[.string nm, .int .i64 0] 72)).drew).heap.size) := Nat.le_trans hsz HBX.out.size
        have z5 := (hb4.cell (p := ⟨w.heap.size, 5, none⟩) (blt_of_cell x5)).trans x5
        have zn := (hb4.cell (p := ⟨b, off + k * 2, none⟩) (blt_of_cell y0)).trans y0
        have z0 := (hb4.cell (p := ⟨w2.heap.size, 0, none⟩) hkl).trans k0
        have q5 := (HBX.out.cell (p := ⟨w.heap.size, 5, none⟩) (blt_of_cell x5)).trans x5
        have qn := (HBX.out.cell (p := ⟨b, off + k * 2, none⟩) (blt_of_cell y0)).trans y0
        have q0 := (HBX.out.cell (p := ⟨w2.heap.size, 0, none⟩) hkl).trans k0
        have q1 := (HBX.out.cell (p := ⟨w2.heap.size, 1, none⟩) hkl).trans k1
        have q2 := (HBX.out.cell (p := ⟨w2.heap.size, 2, none⟩) hkl).trans k2
        have qf := (HBX.out.frozen (p := ⟨w2.heap.size, 0, none⟩) hkl).trans hkf
        go_wp2_with fail
        refine wp_region_held_drew (S := fun w' => w'.cell? ⟨w.heap.size, 5, none⟩ = some (.slice (some ⟨b, off, none⟩) ni ci) ∧ w'.cell? ⟨b, off + k * 2, none⟩ = some (.string nm)) (by kernel_rfl) ?_ (fun hHeld => ?_)
        · exact ⟨z5, zn⟩
        refine wpAnyH_take (i := 0) (oi := _) (v := .pointer (some ⟨w2.heap.size, 0, none⟩)) rfl (by kernel_rfl) (by kernel_rfl) (by kernel_rfl) (fun _ _ _ h => h) (Or.inl ⟨by rfl, fun w hSw => ?_⟩) (by assumption) ?_
        · ((try dsimp only at hSw); go_simp; try with_reducible rfl)
        try simp only [Act.put, List.setIfInBounds_toArray, List.set_cons_zero, List.set_cons_succ]
        refine wpAnyH_take (i := 2) (oi := _) (v := .pointer (some ⟨w.heap.size, 5, none⟩)) rfl (by kernel_rfl) (by kernel_rfl) (by kernel_rfl) (fun _ _ _ h => h) (Or.inl ⟨by rfl, fun w hSw => ?_⟩) (by assumption) ?_
        · ((try dsimp only at hSw); go_simp; try with_reducible rfl)
        try simp only [Act.put, List.setIfInBounds_toArray, List.set_cons_zero, List.set_cons_succ]
        refine wpAnyH_take (i := 3) (oi := _) (v := .slice (some ⟨b, off, none⟩) ni ci) rfl (by kernel_rfl) (by kernel_rfl) (by kernel_rfl) (fun _ _ _ h => h) (Or.inl ⟨by rfl, fun w hSw => ?_⟩) (by assumption) ?_
        · ((try dsimp only at hSw); go_simp; try with_reducible rfl)
        try simp only [Act.put, List.setIfInBounds_toArray, List.set_cons_zero, List.set_cons_succ]
        refine wpAnyH_take (i := 4) (oi := _) (v := .int .i64 k) rfl (by kernel_rfl) (by kernel_rfl) (by kernel_rfl) (fun _ _ _ h => h) (Or.inl ⟨by rfl, fun w hSw => ?_⟩) (by assumption) ?_
        · ((try dsimp only at hSw); go_simp; try with_reducible rfl)
        try simp only [Act.put, List.setIfInBounds_toArray, List.set_cons_zero, List.set_cons_succ]
        refine wpAnyH_take (i := 5) (oi := _) (v := .pointer (some ⟨b, off + k * 2, none⟩)) rfl (by kernel_rfl) (by kernel_rfl) (by kernel_rfl) (fun _ _ _ h => h) (Or.inl ⟨by rfl, fun w hSw => ?_⟩) (by assumption) ?_
        · ((try dsimp only at hSw); go_simp; try with_reducible rfl)
        try simp only [Act.put, List.setIfInBounds_toArray, List.set_cons_zero, List.set_cons_succ]
        refine wpAnyH_take (i := 6) (oi := _) (v := .pointer (some ⟨b, off + k * 2, none⟩)) rfl (by kernel_rfl) (by kernel_rfl) (by kernel_rfl) (fun _ _ _ h => h) (Or.inl ⟨by rfl, fun w hSw => ?_⟩) (by assumption) ?_
        · ((try dsimp only at hSw); go_simp; try with_reducible rfl)
        try simp only [Act.put, List.setIfInBounds_toArray, List.set_cons_zero, List.set_cons_succ]
        refine wpAnyH_take (i := 7) (oi := _) (v := .string nm) rfl (by kernel_rfl) (by kernel_rfl) (by kernel_rfl) (fun _ _ _ h => h) (Or.inl ⟨by rfl, fun w hSw => ?_⟩) (by assumption) ?_
        · ((try dsimp only at hSw); go_simp; try with_reducible rfl)
        try simp only [Act.put, List.setIfInBounds_toArray, List.set_cons_zero, List.set_cons_succ]
        refine wpAnyH_take (i := 8) (oi := _) (v := .agg #[.string nm, .int .i64 0]) rfl (by kernel_rfl) (by kernel_rfl) (by kernel_rfl) (fun _ _ _ h => h) (Or.inl ⟨by rfl, fun w hSw => ?_⟩) (by assumption) ?_
        · ((try dsimp only at hSw); go_simp; try with_reducible rfl)
        try simp only [Act.put, List.setIfInBounds_toArray, List.set_cons_zero, List.set_cons_succ]
        refine wpAnyH_ready (rs := [1, 9]) (by kernel_rfl) (by simp) ?_
        refine AllReadyH.cons rfl (fun K hK => ?_) (AllReadyH.cons rfl (fun K hK => ?_) AllReadyH.nil)
        · go_simp
          refine hK.out _ _ ⟨z5, zn⟩ (fun hHeld => ?_)
          clear hK K
          try simp only [Act.put, List.setIfInBounds_toArray, List.set_cons_zero, List.set_cons_succ]
          refine wpAnyH_ready (rs := [9]) (by kernel_rfl) (by simp) ?_
          refine AllReadyH.cons rfl (fun K hK => ?_) AllReadyH.nil
          go_simp
          refine hK.out _ _ ⟨q5, qn⟩ (fun hHeld => ?_)
          clear hK K
          try simp only [Act.put, List.setIfInBounds_toArray, List.set_cons_zero, List.set_cons_succ]
          refine wpAnyH_ready (rs := [10]) (by kernel_rfl) (by simp) ?_
          refine AllReadyH.cons rfl (fun K hK => ?_) AllReadyH.nil
          refine step_app_ams _ rfl (.tmp 50) (.tmp 58) rfl (w2.heap.size + 1) u (inAms p.ins (fun _ => 0) k) (by simp [Act.eval]) HG5.out w4.heap.size 0 1 1 [⟨nm, 0⟩] (by simp [Act.eval]) HAB.out rfl (by rw [inAms_len]; omega) HS5.out ?_
          intro v6 w6 hg6 hr6 hb6
          obtain ⟨xa6, ca6, hv6, -⟩ := hg6.slice
          obtain ⟨n6, hn6⟩ : ∃ n6, (inAms p.ins (fun _ => 0) k ++ [(⟨nm, 0⟩ : Am)]).length = n6 := ⟨_, rfl⟩
          rw [hn6] at hv6
          subst hv6
          have t5 := (hb6.cell (p := ⟨w.heap.size, 5, none⟩) (by show w.heap.size < w2.heap.size + 1; omega)).trans q5
          have tn := (hb6.cell (p := ⟨b, off + k * 2, none⟩) (by show b < w2.heap.size + 1; omega)).trans qn
          have t0 := (hb6.cell (p := ⟨w2.heap.size, 0, none⟩) (by show w2.heap.size < w2.heap.size + 1; omega)).trans q0
          have t1 := (hb6.cell (p := ⟨w2.heap.size, 1, none⟩) (by show w2.heap.size < w2.heap.size + 1; omega)).trans q1
          have t2 := (hb6.cell (p := ⟨w2.heap.size, 2, none⟩) (by show w2.heap.size < w2.heap.size + 1; omega)).trans q2
          have tf := (hb6.frozen (p := ⟨w2.heap.size, 0, none⟩) (by show w2.heap.size < w2.heap.size + 1; omega)).trans qf
          have s5 : (w6.setCell ⟨w2.heap.size, 0, none⟩ (.slice xa6 n6 ca6)).cell? ⟨w.heap.size, 5, none⟩ = some (.slice (some ⟨b, off, none⟩) ni ci) := (World.cell?_setCell_far w6 ⟨w2.heap.size, 0, none⟩ ⟨w.heap.size, 5, none⟩ _ (by show w2.heap.size ≠ w.heap.size; omega)).trans t5
          have sn : (w6.setCell ⟨w2.heap.size, 0, none⟩ (.slice xa6 n6 ca6)).cell? ⟨b, off + k * 2, none⟩ = some (.string nm) := (World.cell?_setCell_far w6 ⟨w2.heap.size, 0, none⟩ ⟨b, off + k * 2, none⟩ _ (by show w2.heap.size ≠ b; omega)).trans tn
          have hs6 : w2.heap.size + 1 ≤ w6.heap.size := Nat.le_trans HS5.out hb6.size
          have HBS : Hid (Below w2.heap.size wr (w6.setCell ⟨w2.heap.size, 0, none⟩ (.slice xa6 n6 ca6))) := (Below.trans (B := w2.heap.size) ((kbelow_dN HBX.out 1).mono (by omega)) (hb6.mono (by omega))).setCell (p := ⟨w2.heap.size, 0, none⟩) (Nat.le_refl _) _
          have HK6 : Hid (KAt (w6.setCell ⟨w2.heap.size, 0, none⟩ (.slice xa6 n6 ca6)) w2.heap.size (.slice xa6 n6 ca6) (.slice at' nt ct) (.slice none 0 0)) := ⟨by rw [World.size_setCell]; omega, World.cell?_setCell_same w6 _ _ t0, (World.cell?_setCell_other w6 _ _ _ (by simp)).trans t1, (World.cell?_setCell_other w6 _ _ _ (by simp)).trans t2⟩
          have HF6 : Hid ((w6.setCell ⟨w2.heap.size, 0, none⟩ (.slice xa6 n6 ca6)).frozen? ⟨w2.heap.size, 0, none⟩ = false) := (World.frozen?_setCell ..).trans tf
          have HG6 : Hid (GrowA (w6.setCell ⟨w2.heap.size, 0, none⟩ (.slice xa6 n6 ca6)) (w2.heap.size + 1) (.slice xa6 n6 ca6) (inAms p.ins (fun _ => 0) k ++ [⟨nm, 0⟩])) := ownsRow_setCell_below hg6 (by show w2.heap.size < w2.heap.size + 1; omega) _
          have HS6 : Hid (w2.heap.size + 1 ≤ (w6.setCell ⟨w2.heap.size, 0, none⟩ (.slice xa6 n6 ca6)).heap.size) := by unfold Hid; rw [World.size_setCell]; exact hs6
          clear hg6 hr6 hb6 hn6 hs6 t1 t2
          refine hK.out _ _ ⟨t5, tn⟩ (fun hHeld => ?_)
          clear hK K
          try simp only [Act.put, List.setIfInBounds_toArray, List.set_cons_zero, List.set_cons_succ]
          refine wpAnyH_take (i := 11) (oi := _) (v := .pointer (some ⟨w2.heap.size, 0, none⟩)) rfl (by kernel_rfl) (by kernel_rfl) (by kernel_rfl) (fun _ _ _ h => h) (Or.inl ⟨by rfl, fun w hSw => ?_⟩) (by assumption) ?_
          · ((try dsimp only at hSw); go_simp; try with_reducible rfl)
          try simp only [Act.put, List.setIfInBounds_toArray, List.set_cons_zero, List.set_cons_succ]
          refine wpAnyH_ready (rs := [12]) (by kernel_rfl) (by simp) ?_
          refine AllReadyH.cons rfl (fun K hK => ?_) AllReadyH.nil
          go_simp
          refine hK.out _ _ ⟨s5, sn⟩ (fun hHeld => ?_)
          clear hK K
          refine wpAnyH_done (by kernel_rfl) ?_ _
          go_wp2_with fail
          go_roundw
          case rel => exact ⟨k + 1, _, by omega, by go_num, by rw [hisE, if_pos HZ0.out, HRS.out], HK6.out, HF6.out, by rw [inAms, HNM.out]; exact HG6.out, HP.out.below HBS.out hwp, HB.out.trans HBS.out, HS6.out⟩
          case measure => simp [intOf]; omega
        · go_simp
          refine hK.out _ _ ⟨q5, qn⟩ (fun hHeld => ?_)
          clear hK K
          try simp only [Act.put, List.setIfInBounds_toArray, List.set_cons_zero, List.set_cons_succ]
          refine wpAnyH_ready (rs := [1]) (by kernel_rfl) (by simp) ?_
          refine AllReadyH.cons rfl (fun K hK => ?_) AllReadyH.nil
          go_simp
          refine hK.out _ _ ⟨q5, qn⟩ (fun hHeld => ?_)
          clear hK K
          try simp only [Act.put, List.setIfInBounds_toArray, List.set_cons_zero, List.set_cons_succ]
          refine wpAnyH_ready (rs := [10]) (by kernel_rfl) (by simp) ?_
          refine AllReadyH.cons rfl (fun K hK => ?_) AllReadyH.nil
          refine step_app_ams _ rfl (.tmp 50) (.tmp 58) rfl (w2.heap.size + 1) u (inAms p.ins (fun _ => 0) k) (by simp [Act.eval]) HG5.out w4.heap.size 0 1 1 [⟨nm, 0⟩] (by simp [Act.eval]) HAB.out rfl (by rw [inAms_len]; omega) HS5.out ?_
          intro v6 w6 hg6 hr6 hb6
          obtain ⟨xa6, ca6, hv6, -⟩ := hg6.slice
          obtain ⟨n6, hn6⟩ : ∃ n6, (inAms p.ins (fun _ => 0) k ++ [(⟨nm, 0⟩ : Am)]).length = n6 := ⟨_, rfl⟩
          rw [hn6] at hv6
          subst hv6
          have t5 := (hb6.cell (p := ⟨w.heap.size, 5, none⟩) (by show w.heap.size < w2.heap.size + 1; omega)).trans q5
          have tn := (hb6.cell (p := ⟨b, off + k * 2, none⟩) (by show b < w2.heap.size + 1; omega)).trans qn
          have t0 := (hb6.cell (p := ⟨w2.heap.size, 0, none⟩) (by show w2.heap.size < w2.heap.size + 1; omega)).trans q0
          have t1 := (hb6.cell (p := ⟨w2.heap.size, 1, none⟩) (by show w2.heap.size < w2.heap.size + 1; omega)).trans q1
          have t2 := (hb6.cell (p := ⟨w2.heap.size, 2, none⟩) (by show w2.heap.size < w2.heap.size + 1; omega)).trans q2
          have tf := (hb6.frozen (p := ⟨w2.heap.size, 0, none⟩) (by show w2.heap.size < w2.heap.size + 1; omega)).trans qf
          have s5 : (w6.setCell ⟨w2.heap.size, 0, none⟩ (.slice xa6 n6 ca6)).cell? ⟨w.heap.size, 5, none⟩ = some (.slice (some ⟨b, off, none⟩) ni ci) := (World.cell?_setCell_far w6 ⟨w2.heap.size, 0, none⟩ ⟨w.heap.size, 5, none⟩ _ (by show w2.heap.size ≠ w.heap.size; omega)).trans t5
          have sn : (w6.setCell ⟨w2.heap.size, 0, none⟩ (.slice xa6 n6 ca6)).cell? ⟨b, off + k * 2, none⟩ = some (.string nm) := (World.cell?_setCell_far w6 ⟨w2.heap.size, 0, none⟩ ⟨b, off + k * 2, none⟩ _ (by show w2.heap.size ≠ b; omega)).trans tn
          have hs6 : w2.heap.size + 1 ≤ w6.heap.size := Nat.le_trans HS5.out hb6.size
          have HBS : Hid (Below w2.heap.size wr (w6.setCell ⟨w2.heap.size, 0, none⟩ (.slice xa6 n6 ca6))) := (Below.trans (B := w2.heap.size) ((kbelow_dN HBX.out 1).mono (by omega)) (hb6.mono (by omega))).setCell (p := ⟨w2.heap.size, 0, none⟩) (Nat.le_refl _) _
          have HK6 : Hid (KAt (w6.setCell ⟨w2.heap.size, 0, none⟩ (.slice xa6 n6 ca6)) w2.heap.size (.slice xa6 n6 ca6) (.slice at' nt ct) (.slice none 0 0)) := ⟨by rw [World.size_setCell]; omega, World.cell?_setCell_same w6 _ _ t0, (World.cell?_setCell_other w6 _ _ _ (by simp)).trans t1, (World.cell?_setCell_other w6 _ _ _ (by simp)).trans t2⟩
          have HF6 : Hid ((w6.setCell ⟨w2.heap.size, 0, none⟩ (.slice xa6 n6 ca6)).frozen? ⟨w2.heap.size, 0, none⟩ = false) := (World.frozen?_setCell ..).trans tf
          have HG6 : Hid (GrowA (w6.setCell ⟨w2.heap.size, 0, none⟩ (.slice xa6 n6 ca6)) (w2.heap.size + 1) (.slice xa6 n6 ca6) (inAms p.ins (fun _ => 0) k ++ [⟨nm, 0⟩])) := ownsRow_setCell_below hg6 (by show w2.heap.size < w2.heap.size + 1; omega) _
          have HS6 : Hid (w2.heap.size + 1 ≤ (w6.setCell ⟨w2.heap.size, 0, none⟩ (.slice xa6 n6 ca6)).heap.size) := by unfold Hid; rw [World.size_setCell]; exact hs6
          clear hg6 hr6 hb6 hn6 hs6 t1 t2
          refine hK.out _ _ ⟨t5, tn⟩ (fun hHeld => ?_)
          clear hK K
          try simp only [Act.put, List.setIfInBounds_toArray, List.set_cons_zero, List.set_cons_succ]
          refine wpAnyH_take (i := 11) (oi := _) (v := .pointer (some ⟨w2.heap.size, 0, none⟩)) rfl (by kernel_rfl) (by kernel_rfl) (by kernel_rfl) (fun _ _ _ h => h) (Or.inl ⟨by rfl, fun w hSw => ?_⟩) (by assumption) ?_
          · ((try dsimp only at hSw); go_simp; try with_reducible rfl)
          try simp only [Act.put, List.setIfInBounds_toArray, List.set_cons_zero, List.set_cons_succ]
          refine wpAnyH_ready (rs := [12]) (by kernel_rfl) (by simp) ?_
          refine AllReadyH.cons rfl (fun K hK => ?_) AllReadyH.nil
          go_simp
          refine hK.out _ _ ⟨s5, sn⟩ (fun hHeld => ?_)
          clear hK K
          refine wpAnyH_done (by kernel_rfl) ?_ _
          go_wp2_with fail
          go_roundw
          case rel => exact ⟨k + 1, _, by omega, by go_num, by rw [hisE, if_pos HZ0.out, HRS.out], HK6.out, HF6.out, by rw [inAms, HNM.out]; exact HG6.out, HP.out.below HBS.out hwp, HB.out.trans HBS.out, HS6.out⟩
          case measure => simp [intOf]; omega
      · have hzB : decide (hisE p.ins k = 0) = false := decide_eq_false hz0
        have hzC : (hisE p.ins k == 0) = false := by simp [hz0]
        have HE : Hid (hisE p.ins p.ins.length = hisE p.ins k) := Lib.hid (by rw [H3.out]; exact hisE_stay hz0 ni hk)
        have HNE := Lib.hid hz0
        go_wp2_with fail
        go_ret
        exact ⟨_, rfl, .inr (.inr (.inr (.inl ⟨HZ.out, HL.out, by rw [H1.out]; exact hnl, by rw [H3.out]; exact hni, by rw [HE.out]; exact HNE.out, HE.out.symm⟩))), HBW.out⟩
    · obtain rfl : k = ni := by omega
      have hltB : decide ((k : Int) < (k : Int)) = false := decide_eq_false (by omega)
      by_cases hz0 : hisE p.ins k = 0
      · have HZ0 := Lib.hid hz0
        rw [hz0]
        obtain ⟨xa, ca, rfl, hca⟩ := HG.out.slice
        have HCA := Lib.hid hca
        have HLK : Hid ((inAms p.ins (fun _ => 0) k).length = k) := inAms_len _ _ _
        rw [HLK.out] at k0
        clear hca hz0
        go_wp2_with fail
        refine (lines_ref al nl cl p.lns xa at' none k nt 0 ca ct 0 (knP p) _ (HC.out.l.below HBW.out) H1.out (by rw [← H1.out]; exact HC.out.ml) ⟨by unfold knP; rw [H3.out]; exact HCA.out, HC.out.t.below HBW.out, .inl rfl, inAms_fit HC.out.i _ _ (Nat.le_refl _), fun j hj => absurd hj (Nat.not_lt_zero _), by unfold knP; rw [inAms_len]; exact HC.out.mi, HC.out.mt, Nat.zero_le _⟩ (by unfold knP; rw [inAms_len]; exact H3.out) H2.out rfl).mono ?_
        rintro e w7 ⟨i7, e7, rfl, hbi, hb7⟩
        have HB7 := Lib.hid (HBW.out.trans (hb7.mono HBW.out.size))
        have HBI := Lib.hid hbi
        have HH3 : Hid (hisE p.ins p.ins.length = 0) := Lib.hid (by rw [H3.out]; exact HZ0.out)
        clear hb7 hbi x0 x1 x2 x3 x4 x5
        go_wp2_with fail
        go_ret
        exact ⟨_, rfl, .inr (.inr (.inr (.inr ⟨HZ.out, HL.out, by rw [H1.out]; exact hnl, by rw [H3.out]; exact hni, HH3.out, i7, HBI.out⟩))), HB7.out⟩
      · have hzB : decide (hisE p.ins k = 0) = false := decide_eq_false hz0
        have hzC : (hisE p.ins k == 0) = false := by simp [hz0]
        have HNE := Lib.hid hz0
        have HE : Hid (hisE p.ins p.ins.length = hisE p.ins k) := Lib.hid (by rw [H3.out])
        clear hz0
        go_wp2_with fail
        go_ret
        exact ⟨_, rfl, .inr (.inr (.inr (.inl ⟨HZ.out, HL.out, by rw [H1.out]; exact hnl, by rw [H3.out]; exact hni, by rw [HE.out]; exact HNE.out, HE.out.symm⟩))), HBW.out⟩
end Go.Proofs.YtonceehdmnkffaaGreatDoor
namespace Go.Proofs.YtonceehdmnkffaaGreatDoor
open Go.RowKit Go.Sort

theorem checkPlan_ref (p : Pl) (al at' ai : Option Addr) (nl nt ni cl ct ci : Nat) (w : World) (hc : CameP w al at' ai p) (h1 : p.lns.length = nl) (h2 : p.tbs.length = nt) (h3 : p.ins.length = ni) :
    Calls Tryz.prog 12 #[.agg #[.int .i64 p.K, .int .i64 p.A, .int .i64 p.L, .slice al nl cl, .slice at' nt ct, .slice ai ni ci]] w fun e w' => PlanRet w p e w' := by
  have m1 : nl ≤ 9223372036854775807 := by have := hc.ml; rw [h1] at this; unfold maxLen at this; omega
  have m3 : ni ≤ 9223372036854775807 := by have := hc.mi; rw [h3] at this; unfold maxLen at this; omega
  by_cases hz : Cal.schedE p.K p.A p.L = 0
  · by_cases hl : linesE p.lns = 0
    · by_cases hm : 30 < nl ∨ 30 < ni
      · exact checkPlan_many p al at' ai nl nt ni cl ct ci w hc h1 h3 hz hl hm m3 m1
      · exact checkPlan_ins p al at' ai nl nt ni cl ct ci w hc h1 h2 h3 hz hl (by omega) (by omega)
    · exact checkPlan_lines p al at' ai nl nt ni cl ct ci w hc h1 hz hl m3
  · exact checkPlan_sched p al at' ai nl nt ni cl ct ci w hz m3
end Go.Proofs.YtonceehdmnkffaaGreatDoor
namespace Go.Proofs.YtonceehdmnkffaaGreatDoor
open Go.RowKit Go.Sort

theorem lastN_some {f : Nat → ByteArray} {i : Nat} : ∀ {j : Nat}, i < j → (lastN f j (f i)).isSome = true
  | 0, h => by omega
  | j + 1, h => by
    by_cases e : i = j
    · subst e; simp [lastN]
    · have := lastN_some (f := f) (i := i) (j := j) (by omega)
      rw [lastN]
      split
      · rfl
      · exact this
theorem names_apart {l : List Ln} {k : Kn} (h : ∀ j, j < l.length → lineOk l k j = 0) : ∀ i j, i < j → j < l.length → (lnth l i).name ≠ (lnth l j).name := by
  intro i j hij hj e
  have h0 := h j hj
  have hs : (valsK l k j (lnth l j).name).isSome = true := by
    rw [← e]
    unfold valsK
    have := lastN_some (f := fun j => (lnth l j).name) hij
    split
    · rfl
    · next hh => rw [hh] at this; cases this
  unfold lineOk at h0
  rw [if_pos hs] at h0
  omega
/-- The lines' names are not the same. -/
def LApart (p : Pl) : Prop := ∀ i j, i < j → j < p.lns.length → (lnth p.lns i).name ≠ (lnth p.lns j).name
theorem PlanIs.apart {p : Pl} (h : PlanIs p 0) : LApart p := by
  rcases h with ⟨h, h'⟩ | ⟨_, h, h'⟩ | ⟨_, _, _, h'⟩ | ⟨_, _, _, _, h, h'⟩ | ⟨_, _, _, _, _, i, hb⟩
  · exact absurd h'.symm h
  · exact absurd h'.symm h
  · cases h'
  · exact absurd h'.symm h
  · rcases hb with ⟨q1, _, q2⟩ | ⟨_, q1, _, q2⟩ | ⟨_, _, ⟨_, _, q3⟩ | ⟨_, _, _, _, q, _⟩⟩
    · exact absurd q2.symm q1
    · exact absurd q2.symm q1
    · exact names_apart q3
    · exact absurd rfl q
theorem yrsK_mem {l : List Ln} {sums : List Int} : ∀ {k : Nat} {x : Am}, x ∈ yrsK l sums k → ∃ j, j < k ∧ x = ⟨(lnth l j).name, nth sums j⟩
  | 0, x, h => by simp [yrsK] at h
  | k + 1, x, h => by
    rw [yrsK] at h
    split at h
    · obtain ⟨j, hj, e⟩ := yrsK_mem h; exact ⟨j, by omega, e⟩
    · rcases List.mem_append.1 h with h | h
      · obtain ⟨j, hj, e⟩ := yrsK_mem h; exact ⟨j, by omega, e⟩
      · exact ⟨k, by omega, by simpa using h⟩
theorem pair_of {l : List Am} (h : ∀ i j, i < j → j < l.length → ltS (anth l j).name (anth l i).name = false) : l.Pairwise fun a b => ltS b.name a.name = false := by
  rw [List.pairwise_iff_getElem]
  intro i j hi hj hij
  have := h i j hij hj
  simpa [anth, List.getD_eq_getElem?_getD, hi, hj] using this
theorem YrsOf.unique {p : Pl} {sums : List Int} {nl : Nat} {y y' : List Am} (h1 : p.lns.length = nl) (hap : LApart p) (h : YrsOf p.lns sums nl y) (h' : YrsOf p.lns sums nl y') : y = y' := by
  refine List.Perm.eq_of_pairwise (le := fun a b : Am => ltS b.name a.name = false) ?_ (pair_of h.2) (pair_of h'.2) (h.1.trans h'.1.symm)
  intro a b ha hb e1 e2
  obtain ⟨i, hi, rfl⟩ := yrsK_mem (h.1.subset ha)
  obtain ⟨j, hj, rfl⟩ := yrsK_mem (h'.1.subset hb)
  have e : (lnth p.lns i).name = (lnth p.lns j).name := ltS_tri e2 e1
  rcases Nat.lt_trichotomy i j with q | q | q
  · exact absurd e (hap i j q (by omega))
  · subst q; rfl
  · exact absurd e.symm (hap j i q (by omega))
/-- One period is reckoned: the year in which it begins, and what the lines come to. -/
def StepIs (p : Pl) (seen : Int) (nl ni : Nat) (year : Int) (sums : List Int) (c : Int) (k : Nat) (vs : List Int) : Prop :=
  ∃ (f t d : Int) (m : Nat) (yrs : List Am), Cal.AtIs p.K p.A p.L c f t 0 ∧ Cal.IsCivil f k m d ∧ YrsOf p.lns (sumsAt year k nl sums) nl yrs ∧ BindIs p.lns (knAt p f seen ni yrs) 0 0 ∧ linesV p.lns (knAt p f seen ni yrs) nl = (vs, true)
theorem StepIs.unique {p : Pl} {seen : Int} {nl ni : Nat} {year : Int} {sums : List Int} {c : Int} {k k' : Nat} {vs vs' : List Int} (h1 : p.lns.length = nl) (hap : LApart p) (h : StepIs p seen nl ni year sums c k vs) (h' : StepIs p seen nl ni year sums c k' vs') : k = k' ∧ vs = vs' := by
  obtain ⟨f, t, d, m, yrs, a1, a2, a3, a4, a5⟩ := h
  obtain ⟨f', t', d', m', yrs', b1, b2, b3, b4, b5⟩ := h'
  obtain ⟨rfl, rfl, _⟩ := a1.unique b1
  obtain ⟨rfl, rfl, rfl⟩ := a2.unique b2
  obtain rfl := a3.unique h1 hap b3
  rw [a5] at b5
  exact ⟨rfl, (Prod.mk.inj b5).1⟩
theorem Runs.inv {p : Pl} {seen frm : Int} {nl ni n : Nat} {y' : Int} {s' : List Int} {o' : List (List Int)} (h : Runs p seen frm nl ni (n + 1) y' s' o') : ∃ (y : Int) (s : List Int) (o : List (List Int)) (k : Nat) (vs : List Int), Runs p seen frm nl ni n y s o ∧ StepIs p seen nl ni y s (frm + n) k vs ∧ y' = 2000 + k ∧ s' = addK (sumsAt y k nl s) vs nl ∧ o' = o ++ [vs] := by
  cases h with
  | @succ _ y s o f t d k m yrs vs h ha hc hy hb hv => exact ⟨y, s, o, k, vs, h, ⟨f, t, d, m, yrs, ha, hc, hy, hb, hv⟩, rfl, rfl, rfl⟩
theorem Runs.step {p : Pl} {seen frm : Int} {nl ni n : Nat} {y : Int} {s : List Int} {o : List (List Int)} {k : Nat} {vs : List Int} (h : Runs p seen frm nl ni n y s o) (hs : StepIs p seen nl ni y s (frm + n) k vs) : Runs p seen frm nl ni (n + 1) (2000 + k) (addK (sumsAt y k nl s) vs nl) (o ++ [vs]) := by
  obtain ⟨f, t, d, m, yrs, a1, a2, a3, a4, a5⟩ := hs
  exact .succ h a1 a2 a3 a4 a5
theorem Runs.nil {p : Pl} {seen frm : Int} {nl ni : Nat} {y : Int} {s : List Int} {o : List (List Int)} (h : Runs p seen frm nl ni 0 y s o) : y = 0 ∧ s = List.replicate nl 0 ∧ o = [] := by
  cases h
  exact ⟨rfl, rfl, rfl⟩
theorem Runs.det {p : Pl} {seen frm : Int} {nl ni : Nat} (h1 : p.lns.length = nl) (hap : LApart p) : ∀ {n : Nat} {y y' : Int} {s s' : List Int} {o o' : List (List Int)}, Runs p seen frm nl ni n y s o → Runs p seen frm nl ni n y' s' o' → y = y' ∧ s = s' ∧ o = o'
  | 0, _, _, _, _, _, _, h, h' => by
    obtain ⟨rfl, rfl, rfl⟩ := h.nil
    obtain ⟨rfl, rfl, rfl⟩ := h'.nil
    exact ⟨rfl, rfl, rfl⟩
  | n + 1, _, _, _, _, _, _, h, h' => by
    obtain ⟨y, s, o, k, vs, r, t, rfl, rfl, rfl⟩ := h.inv
    obtain ⟨y', s', o', k', vs', r', t', rfl, rfl, rfl⟩ := h'.inv
    obtain ⟨rfl, rfl, rfl⟩ := Runs.det h1 hap r r'
    obtain ⟨rfl, rfl⟩ := t.unique h1 hap t'
    exact ⟨rfl, rfl, rfl⟩
theorem Runs.len {p : Pl} {seen frm : Int} {nl ni : Nat} : ∀ {n : Nat} {y : Int} {s : List Int} {o : List (List Int)}, Runs p seen frm nl ni n y s o → o.length = n
  | 0, y, s, o, h => by
    obtain ⟨rfl, rfl, rfl⟩ := h.nil
    rfl
  | n + 1, y, s, o, h => by
    obtain ⟨y', s', o', k, vs, r, t, rfl, rfl, rfl⟩ := h.inv
    simp [Runs.len r]
theorem Runs.pre {p : Pl} {seen frm : Int} {nl ni : Nat} : ∀ {n : Nat} {y : Int} {s : List Int} {o : List (List Int)}, Runs p seen frm nl ni n y s o → ∀ m, m ≤ n → ∃ y' s', Runs p seen frm nl ni m y' s' (o.take m)
  | 0, y, s, o, h, m, hm => by
    obtain rfl : m = 0 := by omega
    obtain ⟨rfl, rfl, rfl⟩ := h.nil
    exact ⟨0, _, h⟩
  | n + 1, y, s, o, h, m, hm => by
    obtain ⟨y', s', o', k, vs, r, t, rfl, rfl, rfl⟩ := h.inv
    have hl : o'.length = n := r.len
    by_cases e : m = n + 1
    · subst e
      rw [List.take_of_length_le (by simp [hl])]
      exact ⟨_, _, h⟩
    · obtain ⟨y2, s2, r2⟩ := Runs.pre r m (by omega)
      rw [List.take_append_of_le_length (by omega)]
      exact ⟨y2, s2, r2⟩
/-- Where periods can be reckoned up to the last one asked for, Fresh answers them. -/
theorem FreshR.runs {p : Pl} {frm to seen : Int} {nl ni : Nat} {w w' : World} {rv : Value} {er : Int} (h : FreshR p frm to seen nl ni w rv er w') (h1 : p.lns.length = nl) (hp : PlanIs p 0) (ha : AskOk frm to seen) (h60 : to - frm < 60) {n : Nat} {y : Int} {s : List Int} {outs : List (List Int)} (hn : frm + n = to + 1) (hr : Runs p seen frm nl ni n y s outs) :
    er = 0 ∧ ∃ (rows : List Value) (B : Nat), w.heap.size ≤ B ∧ GrowR w' B rv rows ∧ rows.length = outs.length ∧ ∀ j, j < rows.length → Grow w' B (rowN rows j) (outN outs j) := by
  rcases h with ⟨h0, _, h⟩ | ⟨h0, _, _, _, n', y', s', outs', rows, B, hn', hr', hB, hg, hl, hrow⟩
  · exfalso
    rcases h with h | ⟨_, ⟨h, _⟩ | ⟨_, h, _⟩ | ⟨_, _, m, y', s', o', hm, hr', h⟩⟩
    · exact h0 (h.unique hp)
    · exact h ha
    · omega
    · obtain ⟨y2, s2, r2⟩ := hr.pre (m + 1) (by omega)
      obtain ⟨y3, s3, o3, k, vs, r3, st, _, _, _⟩ := r2.inv
      obtain ⟨rfl, rfl, rfl⟩ := Runs.det h1 hp.apart hr' r3
      obtain ⟨f, t, d, mm, yrs, a1, a2, a3, a4, a5⟩ := st
      rcases h with ⟨f', t', b1⟩ | ⟨f', t', d', k', m', yrs', b1, b2, b3, b4⟩
      · obtain ⟨_, _, e⟩ := a1.unique b1
        exact h0 e.symm
      · obtain ⟨rfl, rfl, _⟩ := a1.unique b1
        obtain ⟨rfl, rfl, rfl⟩ := a2.unique b2
        obtain rfl := a3.unique h1 hp.apart b3
        rcases b4 with ⟨i, b4⟩ | ⟨_, _, vs', b4⟩
        · exact h0 (b4.unique a4).2
        · rw [a5] at b4
          cases (Prod.mk.inj b4).2
  · obtain rfl : n = n' := by omega
    obtain ⟨rfl, rfl, rfl⟩ := Runs.det h1 hp.apart hr hr'
    exact ⟨h0, rows, B, hB, hg, hl, hrow⟩
end Go.Proofs.YtonceehdmnkffaaGreatDoor
namespace Go.Proofs.YtonceehdmnkffaaGreatDoor
open Go.RowKit Go.Sort

def exP : Ex := .mk 2 0 ⟨#[112, 97, 121]⟩ 0 (fun _ => .no)
def lnP : Ln := ⟨1, ⟨#[97]⟩, exP⟩
def inP : In := ⟨⟨#[112, 97, 121]⟩, [⟨0, 0, 5, false⟩, ⟨31, 9, 7, false⟩]⟩
def P0 : Pl := ⟨4, 0, 0, [lnP], [], [inP]⟩
theorem P0_lines : linesE P0.lns = 0 := by decide +kernel
theorem P0_plan : PlanIs P0 0 := by
  refine .inr (.inr (.inr (.inr ⟨by decide, P0_lines, by decide, by decide, by decide +kernel, 0, .inr (.inr ⟨P0_lines, by decide +kernel, .inl ⟨rfl, rfl, fun j hj => ?_⟩⟩)⟩)))
  obtain rfl : j = 0 := by simpa [P0] using hj
  decide +kernel
theorem P0_civ : Cal.IsCivil 0 0 1 1 := ⟨by omega, by omega, by omega, by omega, by decide, by decide⟩
theorem P0_civ1 : Cal.IsCivil 31 0 2 1 := ⟨by omega, by omega, by omega, by omega, by decide, by decide⟩
theorem P0_at0 : Cal.AtIs P0.K P0.A P0.L 0 0 30 0 := .inr ⟨by decide, .inr ⟨⟨by omega, by omega⟩, .inr (.inl ⟨rfl, 0, 1, 1, P0_civ, .inr ⟨by omega, by decide, by decide, rfl⟩⟩)⟩⟩
theorem P0_at1 : Cal.AtIs P0.K P0.A P0.L 1 31 59 0 := .inr ⟨by decide, .inr ⟨⟨by omega, by omega⟩, .inr (.inl ⟨rfl, 0, 1, 1, P0_civ, .inr ⟨by omega, by decide, by decide, rfl⟩⟩)⟩⟩
theorem P0_step0 : StepIs P0 9 1 1 0 [0] 0 0 [5] := by
  refine ⟨0, 30, 1, 1, [], P0_at0, P0_civ, ⟨by rw [show yrsK P0.lns (sumsAt 0 0 1 [0]) 1 = [] by decide +kernel], fun i j _ hj => absurd hj (Nat.not_lt_zero _)⟩, .inr (.inr ⟨P0_lines, by decide +kernel, .inl ⟨rfl, rfl, fun j hj => ?_⟩⟩), by decide +kernel⟩
  obtain rfl : j = 0 := by simpa [P0] using hj
  decide +kernel
theorem P0_yrs1 : yrsK P0.lns (sumsAt 2000 0 1 [5]) 1 = [⟨⟨#[97]⟩, 5⟩] := rfl
theorem P0_step1 : StepIs P0 9 1 1 2000 [5] 1 0 [7] := by
  refine ⟨31, 59, 1, 2, [⟨⟨#[97]⟩, 5⟩], P0_at1, P0_civ1, ⟨by rw [P0_yrs1], fun i j hij hj => ?_⟩, .inr (.inr ⟨P0_lines, by decide +kernel, .inl ⟨rfl, rfl, fun j hj => ?_⟩⟩), by decide +kernel⟩
  · simp at hj
    omega
  · obtain rfl : j = 0 := by simpa [P0] using hj
    decide +kernel
theorem P0_runs : ∃ (y : Int) (s : List Int), Runs P0 9 0 1 1 2 y s [[5], [7]] := by
  have h1 : Runs P0 9 0 1 1 1 2000 [5] [[5]] := Runs.step (frm := 0) (n := 0) .zero P0_step0
  exact ⟨_, _, Runs.step (frm := 0) (n := 1) h1 P0_step1⟩
theorem P0_first {k : Int} {ok : Bool} {er : Int} (h : FirstIs P0 0 9 k ok er) : k = 1 ∧ ok = true ∧ er = 0 := by
  have d0 : difN P0.ins 0 0 9 P0.ins.length = false := by decide +kernel
  have d1 : difN P0.ins 31 0 9 P0.ins.length = true := by decide +kernel
  have no1 : ¬ SameP P0 0 9 1 := by
    rintro ⟨f, t, ha, hd⟩
    obtain ⟨rfl, _, _⟩ := ha.unique P0_at1
    rw [d1] at hd
    cases hd
  rcases h with ⟨h, h', _⟩ | ⟨_, h, _⟩ | ⟨_, _, _, h0, ⟨h1, n, h2, h3, h4, f, t, h5, h6⟩ | ⟨h1, h2, n, h3, h4, h5⟩⟩
  · exact absurd (h.unique P0_plan) h'
  · exact absurd h (by decide)
  · refine ⟨?_, h1, h0⟩
    have : n = 1 := by
      rcases Nat.lt_trichotomy n 1 with q | q | q
      · obtain rfl : n = 0 := by omega
        obtain ⟨rfl, _, _⟩ := h5.unique P0_at0
        rw [d0] at h6
        cases h6
      · exact q
      · exact absurd (h4 1 q) no1
    rw [h2, this]
    rfl
  · exfalso
    have hn : n ≤ 1 := by
      rcases Nat.lt_or_ge 1 n with q | q
      · exact absurd (h4 1 q) no1
      · exact q
    rcases h5 with h5 | ⟨f, t, e, he, ha⟩
    · omega
    · have : n = 0 ∨ n = 1 := by omega
      rcases this with rfl | rfl
      · exact he (ha.unique P0_at0).2.2
      · exact he (ha.unique P0_at1).2.2
end Go.Proofs.YtonceehdmnkffaaGreatDoor
set_option linter.unusedSimpArgs false
namespace Go.Proofs.YtonceehdmnkffaaGreatDoor
open Go.RowKit Go.Sort

theorem GrowR.form {w : World} {B : Nat} {v : Value} {l : List Value} (h : GrowR w B v l) : (v = .slice none 0 0 ∧ l = []) ∨ ∃ g c, v = .slice (some ⟨g, 0, none⟩) l.length c ∧ B ≤ g ∧ g < w.heap.size ∧ (∀ j, j < l.length → w.cell? ⟨g, j, none⟩ = some (rowN l j)) ∧ l.length ≤ c := by
  have hh := h
  rcases h.2 with ⟨h1, h2⟩ | ⟨g, c, cur, h1, h2, hgc, h4, _⟩
  · exact .inl ⟨h1, List.eq_nil_of_length_eq_zero h2⟩
  · subst h1
    refine .inr ⟨g, c, rfl, h2, (GrowR.lt hh g rfl).2, fun j hj => ?_, h4⟩
    have := World.ownsRow.cells hh (g := g) rfl j (rowN l j) (by simp [rowN, List.getD_eq_getElem?_getD, hj])
    rwa [Addr.add_lit, Nat.zero_add] at this
def oL : Obj := .cells #[.int .i64 1, .string ⟨#[97]⟩, .int .i64 2, .int .i64 0, .string ⟨#[112, 97, 121]⟩, .slice none 0 0] 66
def oR : Obj := .cells #[.int .i64 0, .int .i64 0, .int .i64 5, .bool false, .int .i64 31, .int .i64 9, .int .i64 7, .bool false] 52
def oI (b : Nat) : Obj := .cells #[.string ⟨#[112, 97, 121]⟩, .slice (some ⟨b, 0, none⟩) 2 2] 47
theorem came_L0 (w : World) : CameL (w.alloc oL) (some ⟨w.heap.size, 0, none⟩) P0.lns := by
  refine .inr ⟨_, _, rfl, by simp, fun j hj => ?_⟩
  obtain rfl : j = 0 := by simpa [P0] using hj
  refine ⟨none, 0, ⟨?_, ?_, ?_, ?_, ?_, ?_⟩, by decide, ⟨by decide, by decide, .inl rfl⟩⟩ <;> simp [oL, lnP, exP, Ex.k, Ex.n, Ex.s, Ex.m, P0, lnth]
theorem came_R0 (w : World) : Hst.CameR (w.alloc oR) (some ⟨w.heap.size, 0, none⟩) inP.rows := by
  refine .inr ⟨_, _, rfl, by simp, fun q hq => ?_⟩
  have : q = 0 ∨ q = 1 := by simp [inP] at hq; omega
  rcases this with rfl | rfl <;> refine ⟨?_, ?_, ?_, ?_⟩ <;> simp [oR, inP, Hst.rnth]
theorem came_I0 {w : World} {b : Nat} (h : Hst.CameR w (some ⟨b, 0, none⟩) inP.rows) : CameI (w.alloc (oI b)) (some ⟨w.heap.size, 0, none⟩) P0.ins := by
  refine .inr ⟨_, _, rfl, by simp, fun j hj => ?_⟩
  obtain rfl : j = 0 := by simpa [P0] using hj
  refine ⟨some ⟨b, 0, none⟩, 2, ?_, ?_, h.below (kbelow_box w (oI b)), by decide, by decide⟩ <;> simp [oI, P0, inP, inth]
theorem came_P0 (w : World) : CameP (((w.alloc oL).alloc oR).alloc (oI (w.heap.size + 1))) (some ⟨w.heap.size, 0, none⟩) none (some ⟨w.heap.size + 1 + 1, 0, none⟩) P0 := by
  have e1 : (w.alloc oL).heap.size = w.heap.size + 1 := by simp
  have e2 : ((w.alloc oL).alloc oR).heap.size = w.heap.size + 1 + 1 := by simp
  have hR := came_R0 (w.alloc oL)
  rw [e1] at hR
  have hI := came_I0 hR
  rw [e2] at hI
  exact ⟨((came_L0 w).below (kbelow_box _ oR)).below (kbelow_box _ _), .inl rfl, hI, by decide, by decide, by decide⟩
set_option maxRecDepth 100000 in
set_option maxHeartbeats 1000000 in
theorem retroBegun_any (w : World) (hS : Shp w) : Calls Tryz.prog 10 #[] w fun e w' => e = .returned (.bool true) ∧ Below w.heap.size w w' := by
  have HS := Lib.hid hS
  clear hS
  have HB1 := Lib.hid (kbelow_box w oL)
  have HB2 := Lib.hid (HB1.out.alloc HB1.out.size oR)
  have HB3 := Lib.hid (HB2.out.alloc HB2.out.size (oI (w.heap.size + 1)))
  have HC3 := Lib.hid (came_P0 w)
  have hsz : (((w.alloc oL).alloc oR).alloc (oI (w.heap.size + 1))).heap.size = w.heap.size + 1 + 1 + 1 := by simp
  unfold oL oR oI at HB3 HC3 hsz
  clear HB1 HB2
  go_enter Tryz.func10, Tryz.ntmps10
  go_wp2_with fail
  generalize (((w.alloc (.cells #[.int .i64 1, .string ⟨#[97]⟩, .int .i64 2, .int .i64 0, .string ⟨#[112, 97, 121]⟩, .slice none 0 0] 66)).alloc (.cells #[.int .i64 0, .int .i64 0, .int .i64 5, .bool false, .int .i64 31, .int .i64 9, .int .i64 7, .bool false] 52)).alloc (.cells #[.string ⟨#[112, 97, 121]⟩, .slice (some ⟨w.heap.size + 1, 0, none⟩) 2 2] 47)) = w3 at *
  have HBX := Lib.hid (kbelow_box w3 (.cells #[.int .i64 4, .int .i64 0, .int .i64 0, .slice (some ⟨w.heap.size, 0, none⟩) 1 1, .slice none 0 0, .slice (some ⟨w.heap.size + 1 + 1, 0, none⟩) 1 1] 28))
  have HP4 := Lib.hid (PBox.made w3 4 0 0 (some ⟨w.heap.size, 0, none⟩) none (some ⟨w.heap.size + 1 + 1, 0, none⟩) 1 0 1 1 0 1)
  rw [hsz] at HP4
  have HB4 := Lib.hid (HB3.out.trans (HBX.out.mono HB3.out.size))
  have HC4 := Lib.hid (HC3.out.below HBX.out)
  clear HB3 HC3 HBX
  generalize (w3.alloc (.cells #[.int .i64 4, .int .i64 0, .int .i64 0, .slice (some ⟨w.heap.size, 0, none⟩) 1 1, .slice none 0 0, .slice (some ⟨w.heap.size + 1 + 1, 0, none⟩) 1 1] 28)) = w4 at *
  refine (Fresh_any P0 (some ⟨w.heap.size, 0, none⟩) none (some ⟨w.heap.size + 1 + 1, 0, none⟩) 1 0 1 1 0 1 0 1 9 w4 (HS.out.below HB4.out) HC4.out rfl rfl rfl (by omega)).mono ?_
  rintro e w5 ⟨rv, er, rfl, hfr, hb5⟩
  obtain ⟨y, s, hr⟩ := P0_runs
  obtain ⟨rfl, rows, B, hBB, hg, hrl, hrow⟩ := hfr.runs rfl P0_plan ⟨by decide, by omega, by omega⟩ (by omega) (by omega) hr
  have HRW := Lib.hid (hrow 1 (by rw [hrl]; decide))
  have HB5 := Lib.hid (HB4.out.trans (hb5.mono HB4.out.size))
  have HP5 := Lib.hid (HP4.out.below hb5 HP4.out.1)
  have HC5 := Lib.hid (HC4.out.below hb5)
  obtain ⟨g, c, rfl, hgg, hgl, hcell⟩ : ∃ g c, rv = .slice (some ⟨g, 0, none⟩) 2 c ∧ w4.heap.size ≤ g ∧ g < w5.heap.size ∧ w5.cell? ⟨g, 1, none⟩ = some (rowN rows 1) := by
    rcases hg.form with ⟨_, h⟩ | ⟨g, c, h, h2, h3, h4, _⟩
    · rw [h] at hrl; cases hrl
    · exact ⟨g, c, by rw [h, hrl]; rfl, by omega, h3, h4 1 (by rw [hrl]; decide)⟩
  have HCL := Lib.hid hcell
  clear hfr hr hg hrow hrl hb5 HB4 HP4 HC4 hsz hgg hcell
  obtain ⟨_, x0, x1, x2, x3, x4, x5⟩ := HP5.out
  go_wp2_with fail
  refine (First_any P0 (some ⟨w.heap.size, 0, none⟩) none (some ⟨w.heap.size + 1 + 1, 0, none⟩) 1 0 1 1 0 1 0 9 w5 (HS.out.below HB5.out) HC5.out rfl rfl rfl).mono ?_
  rintro e w6 ⟨k, ok, er, rfl, hfi, hb6⟩
  obtain ⟨rfl, rfl, rfl⟩ := P0_first hfi
  have HB6 := Lib.hid (HB5.out.trans (hb6.mono HB5.out.size))
  have x6 := (hb6.cell (p := ⟨g, 1, none⟩) hgl).trans HCL.out
  have HRX := Lib.hid (grow_keep HRW.out fun q hq => hb6.block q (HRW.out.lt q hq).2)
  obtain ⟨gb, c', hv, _, hown⟩ := HRX.out.own (by decide)
  have hown' : Own w6 gb [7] := hown
  have hv' : rowN rows 1 = .slice (some ⟨gb, 0, none⟩) 1 c' := hv
  rw [hv'] at x6
  have HOW := Lib.hid hown'
  have HAT1 : Hid (At (w6.alloc (.cells #[.int .i64 7] 3)) gb 0 [7]) := by
    have h := hown'.at
    exact h.below (kbelow_box w6 (.cells #[.int .i64 7] 3)) h.1
  have HAT2 : Hid (At (w6.alloc (.cells #[.int .i64 7] 3)) w6.heap.size 0 [7]) := by
    refine ⟨by simp, fun j hj => ?_⟩
    have : j = 0 := by simp at hj; omega
    subst this
    simp [nth]
  clear hfi hb6 hown hown' hv hv' x0 x1 x2 x3 x4 x5
  go_wp2_with fail
  refine (same_yes gb 0 c' w6.heap.size 0 1 [7] _ (by simp) HAT1.out HAT2.out).mono ?_
  rintro e w7 ⟨rfl, kd, rfl⟩
  go_wp2_with fail
  go_ret
  exact ⟨rfl, kbelow_dN (HB6.out.alloc HB6.out.size _) _⟩
end Go.Proofs.YtonceehdmnkffaaGreatDoor
namespace Go.Proofs.YtonceehdmnkffaaGreatDoor
open Go.RowKit

theorem pcells_sc : Tryz.prog.cellsOf 23 = 3 := by kernel_rfl
theorem pcells_ls : Tryz.prog.cellsOf 24 = 1 := by kernel_rfl
theorem pcells_ts : Tryz.prog.cellsOf 25 = 1 := by kernel_rfl
theorem pcells_is : Tryz.prog.cellsOf 26 = 1 := by kernel_rfl
theorem pcells_pl : Tryz.prog.cellsOf 28 = 6 := by kernel_rfl
theorem pcells_in : Tryz.prog.cellsOf 3 = 1 := by kernel_rfl
set_option maxRecDepth 100000 in
theorem open_plan {H : Type} {enc : TypeId × Value → H} {W : World} {fuel : Nat} {cs : List Value} {x : DataW H × List MemPlace} (hl : cs.length = 6)
    (h : DataW.trod enc Tryz.prog W 0 (fun _ => true) true fuel 28 cs = some x) :
    ∃ (p : Pl) (al : Option Addr) (nl cl : Nat) (at' : Option Addr) (nt ct : Nat) (ai : Option Addr) (ni ci : Nat), cs = [.int .i64 p.K, .int .i64 p.A, .int .i64 p.L, .slice al nl cl, .slice at' nt ct, .slice ai ni ci] ∧ CameP W al at' ai p ∧ p.lns.length = nl ∧ p.tbs.length = nt ∧ p.ins.length = ni := by
  obtain ⟨xs, k, hk, hxy, _, hxl, hf⟩ := DataW.trod_struct Tryz.underlying28 h
  match xs, hxl, cs, hl with
  | [y0, y1, y2, y3], _, [v0, v1, v2, v3, v4, v5], _ =>
    have g0 := hf 0 _ rfl
    have g1 := hf 1 _ rfl
    have g2 := hf 2 _ rfl
    have g3 := hf 3 _ rfl
    simp [pcells_sc, pcells_ls, pcells_ts, pcells_is] at g0 g1 g2 g3
    obtain ⟨zs, k', _, _, _, hzl, hg⟩ := DataW.trod_struct Tryz.underlying23 g0
    match zs, hzl with
    | [z0, z1, z2], _ =>
      have e0 := hg 0 _ rfl
      have e1 := hg 1 _ rfl
      have e2 := hg 2 _ rfl
      simp [pcells_in] at e0 e1 e2
      obtain ⟨K, q0, _, _⟩ := DataW.trod_int Tryz.underlying3 e0
      obtain ⟨A, q1, _, _⟩ := DataW.trod_int Tryz.underlying3 e1
      obtain ⟨L, q2, _, _⟩ := DataW.trod_int Tryz.underlying3 e2
      simp at q0 q1 q2
      subst q0 q1 q2
      obtain ⟨al, nl, cl, ll, rfl, c1, n1, m1⟩ := open_lines g1
      obtain ⟨at', nt, ct, lt, rfl, c2, n2, m2⟩ := open_tbs g2
      obtain ⟨ai, ni, ci, li, rfl, c3, n3, m3⟩ := open_ins g3
      exact ⟨⟨K, A, L, ll, lt, li⟩, al, nl, cl, at', nt, ct, ai, ni, ci, rfl, ⟨c1, c2, c3, by simp only; omega, by simp only; omega, by simp only; omega⟩, n1, n2, n3⟩
end Go.Proofs.YtonceehdmnkffaaGreatDoor
