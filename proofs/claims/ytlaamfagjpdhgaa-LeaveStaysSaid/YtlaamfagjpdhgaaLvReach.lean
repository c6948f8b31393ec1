/-
  Promise T1: the walks of reach, use and begun.
-/
import Derived.Test.YtlaamfagjpdhgaaLvAcc
namespace Go.Proofs.Ytlaamfagjpdhgaa
open Go.RowKit

def dueOf (w : World) (g : Nat) : Nat := match w.cell? ⟨g, 6, none⟩ with
  | some (.int _ n) => (73049 - n).toNat
  | _ => 0
theorem dueOf_eq {w : World} {g : Nat} {n : Int} (h : w.cell? ⟨g, 6, none⟩ = some (.int .i64 n)) : dueOf w g = (73049 - n).toNat := by unfold dueOf; rw [h]
/-- An account at what stands, within bounds. -/
def AccB (w : World) (g : Nat) (h r c : Int) (s : Nat × Int) : Prop := ∃ lost, Acc w g h r c s.1 (fm (s.1 : Int)) s.2 lost ∧ s.1 ≤ 2400 ∧ s.2 ≤ 1000 * (s.1 : Int) ∧ 0 ≤ lost ∧ lost ≤ 2400000 * (s.1 : Int)
theorem AccB.below {B : Nat} {w w' : World} {g : Nat} {h r c : Int} {s : Nat × Int} (a : AccB w g h r c s) (hb : Below B w w') (hB : g < B) : AccB w' g h r c s := by
  obtain ⟨lost, a, k⟩ := a
  exact ⟨lost, Own.below a hb hB, k⟩
theorem AccB.lt {w : World} {g : Nat} {h r c : Int} {s : Nat × Int} (a : AccB w g h r c s) : g < w.heap.size := by
  obtain ⟨lost, a, k⟩ := a
  exact a.1
def RchL (w : World) (g : Nat) (h r c : Int) (M : Nat) (had d : Int) (wr : World) : Prop :=
  ∃ (j : Nat) (ho lo : Int), M ≤ j ∧ j ≤ max M (nm d) ∧ j ≤ 2400 ∧ Acc wr g h r c j (fm (j : Int)) ho lo ∧ ho = pas r c M (j - M) had ∧ 0 ≤ ho ∧ ho ≤ 1000 * (j : Int) ∧ 0 ≤ lo ∧ lo ≤ 2400000 * (j : Int) ∧ w.grownBy wr (some g)
theorem RchL.step {w wr w1 : World} {g : Nat} {h r c : Int} {M : Nat} {had d : Int} {j : Nat} {ho hn ln : Int} (h1 : M ≤ j) (h2 : j < nm d) (h3 : ho = pas r c M (j - M) had) (h4 : hn = one r c j ho) (h5 : Acc w1 g h r c (j + 1) (fm ((j + 1 : Nat) : Int)) hn ln) (h6 : 0 ≤ hn) (h7 : hn ≤ 1000 * ((j + 1 : Nat) : Int)) (h8 : 0 ≤ ln) (h9 : ln ≤ 2400000 * ((j + 1 : Nat) : Int)) (ha : w.grownBy wr (some g)) (hb : wr.grownBy w1 (some g)) : RchL w g h r c M had d w1 := by
  have := nm_le d
  refine ⟨j + 1, hn, ln, by omega, by omega, by omega, h5, ?_, h6, h7, h8, h9, ha.trans hb⟩
  rw [show j + 1 - M = (j - M) + 1 from by omega, pas_snoc, ← h3, show M + (j - M) = j from by omega]
  exact h4
theorem grown_drew {w w' : World} {row : Option Nat} (h : w.grownBy w' row) : w.grownBy w'.drew row := ⟨h.os, h.tape, h.output, h.size, h.block⟩
theorem grown_from {w w' : World} {row : Option Nat} {k : Nat} (h : (w.drewN k).grownBy w' row) : w.grownBy w' row := ⟨h.os, h.tape, h.output, h.size, h.block⟩
set_option maxRecDepth 100000 in
set_option maxHeartbeats 4000000 in
theorem reach_any (g : Nat) (h r c : Int) (M : Nat) (had lost d : Int) (w : World) (ha : Acc w g h r c M (fm (M : Int)) had lost) (hM : M ≤ 2400) (hr0 : 0 ≤ r) (hr1 : r ≤ 1000) (hc0 : 0 ≤ c) (hc1 : c ≤ 100000) (hd : d ≤ 73048) (hh0 : 0 ≤ had) (hh1 : had ≤ 1000 * (M : Int)) (hl0 : 0 ≤ lost) (hl1 : lost ≤ 2400000 * (M : Int)) :
    Calls Try.prog 66 #[.pointer (some ⟨g, 0, none⟩), .int .i64 d] w fun e w' => e = .returned (.tuple #[]) ∧ AccB w' g h r c (rch r c d (M, had)) ∧ w.grownBy w' (some g) := by
  have HA := Lib.hid ha
  have HH1 := Lib.hid hh1
  have HL1 := Lib.hid hl1
  clear ha hh1 hl1
  go_enter Try.func66, Try.ntmps66
  go_wp2_with fail
  go_loopw [4] (fun _ wr => RchL w g h r c M had d wr) (fun _ wr => dueOf wr g)
  case atStart => exact ⟨M, had, lost, Nat.le_refl _, Nat.le_max_left _ _, hM, HA.out, by rw [Nat.sub_self]; rfl, hh0, HH1.out, hl0, HL1.out, World.grownBy.refl _ _⟩
  case round =>
    clear HA HH1 HL1
    obtain ⟨j, ho, lo, hj0, hj1, hj2, hA, hpas, hn0, hn1, hp0, hp1, hgr⟩ := hrel
    have hlt := hA.1
    have HGR := Lib.hid hgr
    have HPAS := Lib.hid hpas
    have HN1 := Lib.hid hn1
    have HP1 := Lib.hid hp1
    have HJ1 := Lib.hid hj1
    unfold Acc at hA
    obtain ⟨y, hy⟩ : ∃ y : Int, 2000 + (j : Int) / 12 = y := ⟨_, rfl⟩
    obtain ⟨m, hm⟩ : ∃ m : Int, (j : Int) % 12 + 1 = m := ⟨_, rfl⟩
    obtain ⟨du, hdu⟩ : ∃ du : Int, fm (j : Int) = du := ⟨_, rfl⟩
    rw [hy, hm, hdu] at hA
    have HY := Lib.hid hy
    have HMM := Lib.hid hm
    have HDU : Hid (du = fm (j : Int)) := Lib.hid hdu.symm
    have HIF := Lib.hid (nm_next (d := d) (M := j) hj2 hd)
    have hm0 : 1 ≤ m := by omega
    have hm1 : m ≤ 12 := by omega
    have hho : ho ≤ 2400000 := by omega
    have hlo : lo ≤ 5760000000 := by omega
    have HOA := Lib.hid hA
    obtain ⟨⟨x0, x1, x2, x3, x4, x5, x6, x7, x8⟩, e3, e4, e6, e7, e8⟩ := hA.ac
    have HX6 := Lib.hid x6
    clear hgr hpas hn1 hp1 hj1 hy hm hdu hA
    by_cases hgo : du ≤ d
    · have hj3 : j < nm d := HIF.out.1 (by rw [← HDU.out]; exact hgo)
      have HST : Hid (∀ w1 : World, Acc w1 g h r c (j + 1) (fm ((j + 1 : Nat) : Int)) (one r c j ho) (if j % 12 = 0 then lo + (ho - min ho c) else lo) → wr.grownBy w1 (some g) → RchL w g h r c M had d w1) := by
        intro w1 q1 q2
        have hb1 := HN1.out
        have hb2 := HP1.out
        refine RchL.step hj0 hj3 HPAS.out rfl q1 (one_nn hr0 hc0 _ hn0) ?_ ?_ ?_ HGR.out q2
        · unfold one; split <;> omega
        · split <;> omega
        · split <;> omega
      by_cases hm1' : m = 1
      · have hj12 : j % 12 = 0 := by have := HMM.out; omega
        have hmE : (m == 1) = true := by simpa using hm1'
        have HM1 := Lib.hid hm1'
        clear hm1'
        by_cases hov : c < ho
        · obtain ⟨ov, hv⟩ : ∃ ov, ho - c = ov := ⟨_, rfl⟩
          have HS : Hid (one r c j ho = c + r ∧ (if j % 12 = 0 then lo + (ho - min ho c) else lo) = lo + ov) := by
            unfold Hid one
            rw [if_pos hj12, if_pos hj12]
            omega
          have hov0 : 0 < ov := by omega
          have hov1 : ov ≤ 2400000 := by omega
          have hD1 : decide (ov < 0) = false := decide_eq_false (by omega)
          have hD2 : decide (0 < ov) = true := decide_eq_true (by omega)
          have hw1 : IntKind.i64.wrap (ho - c) = ov := by rw [hv]; exact IntWalk.i64_in _ (by omega)
          have hw2 : IntKind.i64.wrap (ho - ov) = c := by rw [show ho - ov = c from by omega]; exact IntWalk.i64_in _ (by omega)
          have HV := Lib.hid hv
          clear hv hov
          have hw3 : IntKind.i64.wrap (lo + ov) = lo + ov := IntWalk.i64_in _ (by omega)
          have hw4 : IntKind.i64.wrap (c + r) = c + r := IntWalk.i64_in _ (by omega)
          have HT : Hid (Acc (((wr.setCell ⟨g, 7, none⟩ (.int .i64 c)).setCell ⟨g, 8, none⟩ (.int .i64 (lo + ov))).setCell ⟨g, 7, none⟩ (.int .i64 (c + r))) g h r c j du (c + r) (lo + ov)) := by
            unfold Hid Acc
            rw [HY.out, HMM.out]
            exact ((HOA.out.set7 _).set8 _).set7 _
          have HGS := Lib.hid (grown_setB (grown_setB (grown_set wr g 7 (.int .i64 c)) 8 (.int .i64 (lo + ov))) 7 (.int .i64 (c + r)))
          go_wp2_with fail
          go_quiet (fail)
          go_wp2_with fail
          go_region
          go_wp2_with (first | (go_at_call 83; refine (turn_any g h r c j du (c + r) (lo + ov) _ (by exact HT.out) (by have := nm_le d; omega)).mono ?_; rintro e w1 ⟨rfl, hA1, hg1⟩))
          rw [HS.out.1, HS.out.2] at HST
          have HA1 := Lib.hid hA1
          have HG1 : Hid (wr.grownBy w1 (some g)) := Lib.hid (HGS.out.trans ⟨hg1.os, hg1.tape, hg1.output, hg1.size, hg1.block⟩)
          clear hA1 hg1
          go_roundw
          case rel => exact HST.out _ HA1.out HG1.out
          case measure =>
            rw [dueOf_eq (HA1.out.ac.1.2.2.2.2.2.2.1), dueOf_eq HX6.out]
            have := nm_le d
            have := fm_lt (a := j) (b := j + 1) (by omega)
            have := (fm_bd (M := j) (by omega)).2
            have := (fm_bd (M := j + 1) (by omega)).2
            rw [HDU.out]
            omega
        · have HS : Hid (one r c j ho = ho + r ∧ (if j % 12 = 0 then lo + (ho - min ho c) else lo) = lo) := by
            unfold Hid one
            rw [if_pos hj12, if_pos hj12]
            omega
          obtain ⟨ov, hv⟩ : ∃ ov, ho - c = ov := ⟨_, rfl⟩
          have hD2 : decide (0 < ov) = false := decide_eq_false (by omega)
          have hw1 : IntKind.i64.wrap (ho - c) = ov := by rw [hv]; exact IntWalk.i64_in _ (by omega)
          have HV := Lib.hid hv
          have hov1 : ov ≤ 0 := by omega
          have hov2 : -100000 ≤ ov := by omega
          have hw2 : IntKind.i64.wrap (ho - 0) = ho := by rw [show ho - 0 = ho from by omega]; exact IntWalk.i64_in _ (by omega)
          clear hv hov
          have hw3 : IntKind.i64.wrap (lo + 0) = lo := by rw [show lo + 0 = lo from by omega]; exact IntWalk.i64_in _ (by omega)
          by_cases hz : ov < 0
          · have hD1 : decide (ov < 0) = true := decide_eq_true hz
            have hw4 : IntKind.i64.wrap (ho + r) = ho + r := IntWalk.i64_in _ (by omega)
            have HT : Hid (Acc (((wr.setCell ⟨g, 7, none⟩ (.int .i64 ho)).setCell ⟨g, 8, none⟩ (.int .i64 lo)).setCell ⟨g, 7, none⟩ (.int .i64 (ho + r))) g h r c j du (ho + r) lo) := by
              unfold Hid Acc
              rw [HY.out, HMM.out]
              exact ((HOA.out.set7 _).set8 _).set7 _
            have HGS := Lib.hid (grown_setB (grown_setB (grown_set wr g 7 (.int .i64 ho)) 8 (.int .i64 lo)) 7 (.int .i64 (ho + r)))
            go_wp2_with fail
            go_quiet (fail)
            go_wp2_with fail
            go_region
            go_wp2_with (first | (go_at_call 83; refine (turn_any g h r c j du (ho + r) lo _ (by exact HT.out) (by have := nm_le d; omega)).mono ?_; rintro e w1 ⟨rfl, hA1, hg1⟩))
            rw [HS.out.1, HS.out.2] at HST
            have HA1 := Lib.hid hA1
            have HG1 : Hid (wr.grownBy w1 (some g)) := Lib.hid (HGS.out.trans ⟨hg1.os, hg1.tape, hg1.output, hg1.size, hg1.block⟩)
            clear hA1 hg1
            go_roundw
            case rel => exact HST.out _ HA1.out HG1.out
            case measure =>
              rw [dueOf_eq (HA1.out.ac.1.2.2.2.2.2.2.1), dueOf_eq HX6.out]
              have := nm_le d
              have := fm_lt (a := j) (b := j + 1) (by omega)
              have := (fm_bd (M := j) (by omega)).2
              have := (fm_bd (M := j + 1) (by omega)).2
              rw [HDU.out]
              omega
          · have hz0 : ov = 0 := by omega
            subst hz0
            have hw4 : IntKind.i64.wrap (ho + r) = ho + r := IntWalk.i64_in _ (by omega)
            have HT : Hid (Acc (((wr.setCell ⟨g, 7, none⟩ (.int .i64 ho)).setCell ⟨g, 8, none⟩ (.int .i64 lo)).setCell ⟨g, 7, none⟩ (.int .i64 (ho + r))) g h r c j du (ho + r) lo) := by
              unfold Hid Acc
              rw [HY.out, HMM.out]
              exact ((HOA.out.set7 _).set8 _).set7 _
            have HGS := Lib.hid (grown_setB (grown_setB (grown_set wr g 7 (.int .i64 ho)) 8 (.int .i64 lo)) 7 (.int .i64 (ho + r)))
            go_wp2_with fail
            go_quiet (fail)
            go_wp2_with fail
            go_region
            go_wp2_with (first | (go_at_call 83; refine (turn_any g h r c j du (ho + r) lo _ (by exact HT.out) (by have := nm_le d; omega)).mono ?_; rintro e w1 ⟨rfl, hA1, hg1⟩))
            rw [HS.out.1, HS.out.2] at HST
            have HA1 := Lib.hid hA1
            have HG1 : Hid (wr.grownBy w1 (some g)) := Lib.hid (HGS.out.trans ⟨hg1.os, hg1.tape, hg1.output, hg1.size, hg1.block⟩)
            clear hA1 hg1
            go_roundw
            case rel => exact HST.out _ HA1.out HG1.out
            case measure =>
              rw [dueOf_eq (HA1.out.ac.1.2.2.2.2.2.2.1), dueOf_eq HX6.out]
              have := nm_le d
              have := fm_lt (a := j) (b := j + 1) (by omega)
              have := (fm_bd (M := j) (by omega)).2
              have := (fm_bd (M := j + 1) (by omega)).2
              rw [HDU.out]
              omega
      · have hmE : (m == 1) = false := by simpa using hm1'
        have hmD : decide (m = 1) = false := decide_eq_false hm1'
        have hjn : ¬ j % 12 = 0 := by have := HMM.out; omega
        have hw1 : IntKind.i64.wrap (ho + r) = ho + r := IntWalk.i64_in _ (by omega)
        have HT : Hid (Acc ((wr.setCell ⟨g, 7, none⟩ (.int .i64 (ho + r)))) g h r c j du (ho + r) lo) := by
          unfold Hid Acc
          rw [HY.out, HMM.out]
          exact HOA.out.set7 _
        have HS : Hid (one r c j ho = ho + r ∧ (if j % 12 = 0 then lo + (ho - min ho c) else lo) = lo) := by unfold Hid one; rw [if_neg hjn, if_neg hjn]; exact ⟨rfl, rfl⟩
        have HGS := Lib.hid (grown_set wr g 7 (.int .i64 (ho + r)))
        go_wp2_with fail
        go_region
        go_wp2_with (first | (go_at_call 83; refine (turn_any g h r c j du (ho + r) lo _ (by exact HT.out) (by have := nm_le d; omega)).mono ?_; rintro e w1 ⟨rfl, hA1, hg1⟩))
        rw [HS.out.1, HS.out.2] at HST
        have HA1 := Lib.hid hA1
        have HG1 : Hid (wr.grownBy w1 (some g)) := Lib.hid ((grown_drew HGS.out).trans hg1)
        clear hA1 hg1
        go_roundw
        case rel => exact HST.out _ HA1.out HG1.out
        case measure =>
          rw [dueOf_eq (HA1.out.ac.1.2.2.2.2.2.2.1), dueOf_eq HX6.out]
          have := nm_le d
          have := fm_lt (a := j) (b := j + 1) (by omega)
          have := (fm_bd (M := j) (by omega)).2
          have := (fm_bd (M := j + 1) (by omega)).2
          rw [HDU.out]
          omega
    · have hgo' : decide (du ≤ d) = false := decide_eq_false hgo
      have hj4 : ¬ j < nm d := fun q => hgo (by rw [HDU.out]; exact HIF.out.2 q)
      have HEND : Hid (AccB wr g h r c (rch r c d (M, had)) ∧ w.grownBy wr (some g)) := by
        refine ⟨⟨lo, ?_⟩, HGR.out⟩
        have hj1 := HJ1.out
        have e1 : (rch r c d (M, had)).1 = j := by show max M (nm d) = j; omega
        have e2 : (rch r c d (M, had)).2 = ho := by
          show pas r c M (nm d - M) had = ho
          rw [HPAS.out]
          by_cases q : M ≤ nm d
          · rw [show nm d - M = j - M from by omega]
          · rw [show nm d - M = 0 from by omega, show j - M = 0 from by omega]
        rw [e1, e2]
        refine ⟨?_, hj2, HN1.out, hp0, HP1.out⟩
        unfold Acc
        rw [HY.out, HMM.out, ← HDU.out]
        exact HOA.out
      go_wp2_with fail
      refine bodyPost_end (v := .tuple #[]) (by simp [results, Try.results66, go_sem]) rfl ?_
      exact ⟨rfl, HEND.out⟩
end Go.Proofs.Ytlaamfagjpdhgaa
