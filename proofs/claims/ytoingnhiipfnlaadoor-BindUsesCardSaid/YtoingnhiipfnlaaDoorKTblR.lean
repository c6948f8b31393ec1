/-
  Promise G1: walk of the reference's CheckTable.
-/
import Derived.Test.YtoingnhiipfnlaaDoorKTbl
namespace Go.Proofs.YtoingnhiipfnlaaDoor
open Go.RowKit

set_option maxRecDepth 100000 in
set_option maxHeartbeats 4000000 in
theorem check_ref (s : ByteArray) (a : Option Addr) (n cap : Nat) (l : List Bk) (w : World) (hs : s.size ≤ 9223372036854775807) (hc : CameB w a l) (hn : l.length = n) (hm : n ≤ maxLen) :
    Calls Tryd.prog 29 #[.agg #[.string s, .slice a n cap]] w fun e w' => e = .returned (.int .i64 (tblE s l)) ∧ Below w.heap.size w w' := by
  have hm' : n ≤ 9223372036854775807 := by unfold maxLen at hm; omega
  have HC := Lib.hid hc
  have HM := Lib.hid hm
  clear hm hc
  have HB0 := Lib.hid (kbelow_box w (.cells #[.string s, .slice a n cap] 59))
  have HT0 := Lib.hid (TIs.made w s a n cap 59)
  go_enter Tryd.func29, Tryd.ntmps29
  go_wp2_with fail
  refine (isName_ref s _ hs).mono ?_
  rintro e w1 ⟨b, rfl, hb, hbel⟩
  have HB1 := Lib.hid (HB0.out.trans (hbel.mono HB0.out.size))
  have HT1 := Lib.hid (HT0.out.below hbel HT0.out.1)
  have HN := Lib.hid hb
  clear hb hbel HT0 HB0
  obtain ⟨_, x0, x1⟩ := HT1.out
  cases b
  · have HE : Hid (tblE s l = 1) := tblE_name (fun h => by have := HN.out.2 h; cases this)
    go_wp2_with fail
    go_ret
    exact ⟨kret_int (HE.out.symm), HB1.out⟩
  · have HNP := Lib.hid (HN.out.1 rfl)
    clear HN
    by_cases h1 : n < 1
    · have HE : Hid (tblE s l = 2) := tblE_many HNP.out (.inl (by omega))
      obtain rfl : n = 0 := by omega
      go_wp2_with fail
      go_ret
      exact ⟨kret_int (HE.out.symm), HB1.out⟩
    · have h1' : ¬ ((n : Int) < 1) := by omega
      have h1B : decide ((n : Int) < 1) = false := decide_eq_false h1'
      by_cases h2 : 12 < n
      · have HE : Hid (tblE s l = 2) := tblE_many HNP.out (.inr (by omega))
        have h2' : (12 : Int) < (n : Int) := by omega
        go_wp2_with fail
        go_ret
        exact ⟨kret_int (HE.out.symm), HB1.out⟩
      · have h2' : ¬ ((12 : Int) < (n : Int)) := by omega
        have h2B : decide ((12 : Int) < (n : Int)) = false := decide_eq_false h2'
        have HL : Hid (¬ (l.length < 1 ∨ 12 < l.length)) := by unfold Hid; omega
        obtain ⟨b, off, rfl, hcell⟩ := (HC.out.open hn (by omega))
        have HO := Lib.hid hcell
        clear hcell HC
        go_wp2_with fail
        go_loopw [3] (fun i wr => ∃ k : Nat, k ≤ n ∧ i = .int .i64 k ∧ (∀ j, j < k → bkB (bnth l j) = true) ∧ Below w1.heap.size w1 wr) (fun i _ => n - (intOf i).toNat)
        case atStart => exact ⟨0, Nat.zero_le _, rfl, fun j hj => by omega, Below.refl _ _⟩
        case round =>
          obtain ⟨k, hk, rfl, hall, hbr⟩ := hrel
          have HBR := Lib.hid hbr
          have HB := Lib.hid (HB1.out.trans (hbr.mono HB1.out.size))
          have HA := Lib.hid hall
          clear hall hbr x0 x1
          obtain ⟨_, x0, x1⟩ := HT1.out.below HBR.out HT1.out.1
          have HQ : Hid (∀ o, Below w1.heap.size w1 (wr.alloc o)) := fun o => HBR.out.alloc HBR.out.size o
          by_cases hlt : k < n
          · have hlt' : (k : Int) < (n : Int) := by omega
            obtain ⟨y0, y1⟩ := HO.out wr HB.out k hlt
            have HNO : Hid (bkB (bnth l k) = false → tblE s l = 3) := fun hr => tblE_range HNP.out HL.out (bksB_not (l := l) (j := k) (by omega) hr)
            have HYES : Hid (bkB (bnth l k) = true → ∀ j, j < k + 1 → bkB (bnth l j) = true) := fun hr j hj => by
              by_cases e : j = k
              · subst e; exact hr
              · exact HA.out j (by omega)
            generalize bnth l k = r at *
            obtain ⟨f, rt⟩ := r
            simp only at y0 y1
            by_cases c1 : f < 0
            · have HE := Lib.hid (HNO.out (decide_eq_false (fun h => by have := h.1; simp only at this; omega)))
              go_wp2_with fail
              go_ret
              exact ⟨kret_int (HE.out.symm), HB.out.alloc HB.out.size _⟩
            · have c1B : decide (f < 0) = false := decide_eq_false c1
              by_cases c2 : 1000000000000 < f
              · have HE := Lib.hid (HNO.out (decide_eq_false (fun h => by have := h.2.1; simp only at this; omega)))
                go_wp2_with fail
                go_ret
                exact ⟨kret_int (HE.out.symm), HB.out.alloc HB.out.size _⟩
              · have c2B : decide (1000000000000 < f) = false := decide_eq_false c2
                by_cases c3 : rt < 0
                · have HE := Lib.hid (HNO.out (decide_eq_false (fun h => by have := h.2.2.1; simp only at this; omega)))
                  go_wp2_with fail
                  go_ret
                  exact ⟨kret_int (HE.out.symm), HB.out.alloc HB.out.size _⟩
                · have c3B : decide (rt < 0) = false := decide_eq_false c3
                  by_cases c4 : 10000 < rt
                  · have HE := Lib.hid (HNO.out (decide_eq_false (fun h => by have := h.2.2.2; simp only at this; omega)))
                    go_wp2_with fail
                    go_ret
                    exact ⟨kret_int (HE.out.symm), HB.out.alloc HB.out.size _⟩
                  · have c4B : decide (10000 < rt) = false := decide_eq_false c4
                    have HY := Lib.hid (HYES.out (decide_eq_true ⟨by simp only; omega, by simp only; omega, by simp only; omega, by simp only; omega⟩))
                    go_wp2_with fail
                    go_roundw
                    case rel => exact ⟨k + 1, by omega, by go_num, HY.out, HQ.out _⟩
                    case measure => simp [intOf]; omega
          · have hkn : k = n := by omega
            subst hkn
            have HLK := Lib.hid (bksB_of (l := l) (fun j hj => HA.out j (by omega)))
            clear HA
            go_wp2_with fail
            go_loopw [5] (fun i wq => ∃ r : Nat, r ≤ k ∧ i = .int .i64 r ∧ Below wr.heap.size wr wq ∧ (0 < r → (bnth l 0).frm = 0) ∧ ∀ j, j + 1 < r → (bnth l j).frm < (bnth l (j + 1)).frm) (fun i _ => k - (intOf i).toNat)
            case atStart => exact ⟨0, Nat.zero_le _, rfl, Below.refl _ _, fun h => absurd h (by omega), fun j hj => by omega⟩
            case round =>
              obtain ⟨r, hrk, rfl, hbq, hz, hall⟩ := hrel
              have HA := Lib.hid hall
              have HZ := Lib.hid hz
              have HBQ := Lib.hid hbq
              have HBW := Lib.hid (HB.out.trans (hbq.mono HB.out.size))
              have HT2 := Lib.hid ((HT1.out.below HBR.out HT1.out.1).below hbq (HT1.out.below HBR.out HT1.out.1).1)
              clear hall hbq x0 x1 hz
              obtain ⟨_, x0, x1⟩ := HT2.out
              by_cases hlt : r < k
              · have hlt' : (r : Int) < (k : Int) := by omega
                obtain ⟨y0, _⟩ := HO.out _ HBW.out r (by omega)
                by_cases hr0 : r = 0
                · subst hr0
                  simp only [Nat.zero_mul, Nat.add_zero] at y0
                  by_cases h0 : (bnth l 0).frm = 0
                  · have h0B : decide ((bnth l 0).frm = 0) = true := decide_eq_true h0
                    have h0N : ((bnth l 0).frm != 0) = false := by simp [h0]
                    go_wp2_with fail
                    go_quiet (fail)
                    go_wp2_with fail
                    go_roundw
                    case rel => exact ⟨0 + 1, by omega, by go_num, kbelow_dN HBQ.out _, fun _ => h0, fun j hj => by omega⟩
                    case measure => simp [intOf]; omega
                  · have h0B : decide ((bnth l 0).frm = 0) = false := decide_eq_false h0
                    have h0N : ((bnth l 0).frm != 0) = true := by simp [h0]
                    have HE : Hid (tblE s l = 4) := tblE_state HNP.out HL.out HLK.out (.inl h0)
                    go_wp2_with fail
                    go_quiet (fail)
                    go_wp2_with fail
                    go_ret
                    exact ⟨kret_int HE.out.symm, kbelow_dN HBW.out _⟩
                · obtain ⟨q, rfl⟩ : ∃ q, r = q + 1 := ⟨r - 1, by omega⟩
                  obtain ⟨z0, _⟩ := HO.out _ HBW.out q (by omega)
                  rw [show ((q + 1 : Nat) : Int) = (q : Int) + 1 by omega]
                  rw [show ((q + 1 : Nat) : Int) = (q : Int) + 1 by omega] at hlt'
                  have hsub : (q : Int) + 1 - 1 = (q : Int) := by omega
                  have htn : ((q : Int) + 1).toNat = q + 1 := by omega
                  have hlq : (q : Int) < (k : Int) := by omega
                  have hpB : decide ((0 : Int) < (q : Int) + 1) = true := decide_eq_true (by omega)
                  have hzB : decide ((q : Int) + 1 = 0) = false := decide_eq_false (by omega)
                  have hzE : ((q : Int) + 1 == 0) = false := by simp; omega
                  have hp' : (0 : Int) < (q : Int) + 1 := by omega
                  by_cases hr : (bnth l (q + 1)).frm ≤ (bnth l q).frm
                  · have hrB : decide ((bnth l (q + 1)).frm ≤ (bnth l q).frm) = true := decide_eq_true hr
                    have HE : Hid (tblE s l = 4) := tblE_state HNP.out HL.out HLK.out (.inr (upB_not (l := l) (j := q) (by omega) hr))
                    go_wp2_with fail
                    go_quiet (fail)
                    go_wp2_with fail
                    go_ret
                    exact ⟨kret_int HE.out.symm, kbelow_dN HBW.out _⟩
                  · have hrB : decide ((bnth l (q + 1)).frm ≤ (bnth l q).frm) = false := decide_eq_false hr
                    go_wp2_with fail
                    go_quiet (fail)
                    go_wp2_with fail
                    go_roundw
                    case rel =>
                      refine ⟨q + 1 + 1, by omega, by go_num, kbelow_dN HBQ.out _, fun _ => HZ.out (by omega), ?_⟩
                      intro j hj
                      by_cases e : j = q
                      · subst e; omega
                      · exact HA.out j (by omega)
                    case measure => simp [intOf]; omega
              · have hrk' : r = k := by omega
                subst hrk'
                have HE : Hid (tblE s l = 0) := tblE_yes HNP.out HL.out HLK.out (HZ.out (by omega)) (upB_iff.2 (fun j hj => HA.out j (by omega)))
                go_wp2_with fail
                go_ret
                exact ⟨kret_int HE.out.symm, HBW.out⟩
end Go.Proofs.YtoingnhiipfnlaaDoor
