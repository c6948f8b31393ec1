/-
  Promise P3: the walk of the reference's CheckPayments.
-/
import Derived.Test.YtdfgkngfpedgdaaDoorBPayW
namespace Go.Proofs.YtdfgkngfpedgdaaDoor
open Go.RowKit

theorem pbelow_dN {B : Nat} {a w : World} (h : Below B a w) (k : Nat) : Below B a (w.drewN k) := h.trans ⟨rfl, rfl, rfl, Nat.le_refl _, fun _ _ => rfl⟩
set_option maxRecDepth 100000 in
set_option maxHeartbeats 4000000 in
theorem checkPayments_ref (a : Option Addr) (n cap : Nat) (l : List Py) (w : World) (hc : CameP w a l) (hf : ∀ j, j < n → FitP (pnth l j)) (hn : l.length = n) (hm : n ≤ 9223372036854775807) :
    Calls Tryd.prog 19 #[.slice a n cap] w fun e w' => e = .returned (.int .i64 (payE l n)) ∧ Below w.heap.size w w' := by
  have HO := Lib.hid (fun h0 => hc.open hn h0)
  have HF := Lib.hid hf
  clear hc hf hn
  by_cases h300 : 300 < n
  · have HE := Lib.hid (payE_many (l := l) h300)
    have h300' : (300 : Int) < (n : Int) := by omega
    go_enter Tryd.func19, Tryd.ntmps19
    go_wp2_with fail
    go_ret
    exact ⟨tret_int HE.out.symm, Below.refl _ _⟩
  · have h300' : ¬ ((300 : Int) < (n : Int)) := by omega
    go_enter Tryd.func19, Tryd.ntmps19
    go_wp2_with fail
    go_loopw [3, 4] (fun tv i wr => ∃ k : Nat, k ≤ n ∧ i = .int .i64 k ∧ tv = .bool (dupB l k) ∧ (∀ j, j < k → wrongP (pnth l j) = 0) ∧ ∃ q, wr = w.drewN q) (fun _ i _ => n - (intOf i).toNat)
    case atStart => exact ⟨0, Nat.zero_le _, rfl, rfl, fun j hj => by omega, 0, rfl⟩
    case round =>
      obtain ⟨k, hk, rfl, rfl, hall, q, rfl⟩ := hrel
      have HA := Lib.hid hall
      have HB := Lib.hid (pbelow_dN (Below.refl w.heap.size w) q)
      clear hall
      by_cases hlt : k < n
      · have hlt' : (k : Int) < (n : Int) := by omega
        obtain ⟨b, off, rfl, hbl, hcell⟩ := HO.out (by omega)
        obtain ⟨x0, x1, x2, x3⟩ := hcell _ HB.out k hlt
        have HCELL : Hid (∀ j, j < n → w.cell? ⟨b, off + j * 4 + 3, none⟩ = some (.int .i64 (pnth l j).ref)) := fun j hj => (hcell _ (Below.refl w.heap.size w) j hj).2.2.2
        have hfit := HF.out k hlt
        have HNA := hfit.1.1
        have HNF := hfit.1.2
        have HEA := Lib.hid (fun h => payE_at (l := l) (n := n) (k := k) h300 HA.out h hlt)
        have HNX : Hid (wrongP (pnth l k) = 0 → ∀ j, j < k + 1 → wrongP (pnth l j) = 0) := fun h j hj => by
          by_cases e : j = k
          · subst e; exact h
          · exact HA.out j (by omega)
        have HWA := Lib.hid (@wrongP_acc (pnth l k))
        have HWN := Lib.hid (@wrongP_nam (pnth l k))
        have HWR := Lib.hid (@wrongP_rng (pnth l k))
        have HWO := Lib.hid (@wrongP_ok (pnth l k))
        have HDU : Hid (dupB l (k + 1) = (dupB l k || metR l (pnth l k).ref k)) := rfl
        have HME : Hid (∀ j, metR l (pnth l k).ref (j + 1) = (metR l (pnth l k).ref j || (pnth l j).ref == (pnth l k).ref)) := fun j => rfl
        have HM0 : Hid (metR l (pnth l k).ref 0 = false) := rfl
        clear hcell hfit hbl
        generalize wrongP (pnth l k) = wr' at *
        have HRF : Hid ((pnth l k).ref = (pnth l k).ref) := rfl
        generalize hrf : (pnth l k).ref = rf at *
        have HRK := Lib.hid hrf
        generalize (pnth l k).acc = ac at *
        generalize (pnth l k).nam = nm at *
        generalize (pnth l k).mon = mo at *
        clear hrf HRF
        cases ha : accB ac
        · have HE : Hid (payE l n = 1) := by have := HWA.out ha; unfold Hid; rw [HEA.out (by rw [this]; decide), this]
          go_wp2_with (go_at_call 16; refine (isBankAccount_ref ac _ HNA).mono ?_; rintro e w' ⟨rfl, h'⟩; subst w'; rw [ha])
          go_ret
          exact ⟨tret_int HE.out.symm, HB.out⟩
        · cases hnm : nameB nm
          · have HE : Hid (payE l n = 1) := by have := HWN.out hnm; unfold Hid; rw [HEA.out (by rw [this]; decide), this]
            have hnm' : (allT letB nm && decide (1 ≤ nm.size ∧ nm.size ≤ 12)) = false := hnm
            go_wp2_with (first
              | (go_at_call 16; refine (isBankAccount_ref ac _ HNA).mono ?_; rintro e w' ⟨rfl, h'⟩; subst w'; rw [ha])
              | (go_at_call 43; refine (isPayee_ref nm _ HNF).mono ?_; rintro e w' ⟨rfl, h'⟩; subst w'; rw [hnm']))
            go_ret
            exact ⟨tret_int HE.out.symm, HB.out⟩
          · have hnm' : (allT letB nm && decide (1 ≤ nm.size ∧ nm.size ≤ 12)) = true := hnm
            by_cases hok : (1 ≤ mo ∧ mo ≤ 1000000000000) ∧ 0 ≤ rf ∧ rf ≤ 999999
            · have HOK := Lib.hid (HNX.out (HWO.out ha hnm hok))
              have m1 : decide (mo < 1) = false := decide_eq_false (by omega)
              have m2 : decide (1000000000000 < mo) = false := decide_eq_false (by omega)
              have m3 : decide (rf < 0) = false := decide_eq_false (by omega)
              have m4 : decide (999999 < rf) = false := decide_eq_false (by omega)
              clear hok
              go_wp2_with (first
                | (go_at_call 16; refine (isBankAccount_ref ac _ HNA).mono ?_; rintro e w' ⟨rfl, h'⟩; subst w'; rw [ha])
                | (go_at_call 43; refine (isPayee_ref nm _ HNF).mono ?_; rintro e w' ⟨rfl, h'⟩; subst w'; rw [hnm']))
              clear x0 x1 x2 x3 m1 m2 m3 m4 ha hnm hnm' HNA HNF
              generalize dupB l k = dk at *
              go_loopw [3, 5] (fun tv i wr => ∃ k2 : Nat, k2 ≤ k ∧ i = .int .i64 k2 ∧ tv = .bool (dk || metR l rf k2) ∧ ∃ q, wr = w.drewN q) (fun _ i _ => k - (intOf i).toNat)
              case atStart => exact ⟨0, Nat.zero_le _, rfl, by rw [HM0.out]; simp, q, rfl⟩
              case round =>
                obtain ⟨k2, hk2, rfl, rfl, q2, rfl⟩ := hrel
                by_cases hlt2 : k2 < k
                · have hlt2' : (k2 : Int) < (k : Int) := by omega
                  have hlt3 : (k2 : Int) < (n : Int) := by omega
                  have c1 := HCELL.out k2 (by omega)
                  have c2 := HCELL.out k hlt
                  rw [HRK.out] at c2
                  have HMK := Lib.hid (HME.out k2)
                  generalize (pnth l k2).ref = r2 at *
                  generalize metR l rf k2 = mk at *
                  cases ht : (dk || mk)
                  · by_cases hr : r2 = rf
                    · have hrB : (r2 == rf) = true := by simpa using hr
                      have hrD : decide (r2 = rf) = true := decide_eq_true hr
                      have HV : Hid ((dk || metR l rf (k2 + 1)) = true) := by unfold Hid; rw [HMK.out, hrB, ← Bool.or_assoc, ht]; rfl
                      clear hr
                      go_wp2_with fail
                      go_quiet (fail)
                      go_wp2_with fail
                      go_roundw
                      case rel => exact ⟨k2 + 1, by omega, by go_num, by rw [HV.out], _, rfl⟩
                      case measure => simp [intOf]; omega
                    · have hrB : (r2 == rf) = false := by simpa using hr
                      have hrD : decide (r2 = rf) = false := decide_eq_false hr
                      have HV : Hid ((dk || metR l rf (k2 + 1)) = false) := by unfold Hid; rw [HMK.out, hrB, ← Bool.or_assoc, ht]; rfl
                      clear hr
                      go_wp2_with fail
                      go_quiet (fail)
                      go_wp2_with fail
                      go_roundw
                      case rel => exact ⟨k2 + 1, by omega, by go_num, by rw [HV.out], _, rfl⟩
                      case measure => simp [intOf]; omega
                  · have HV : Hid ((dk || metR l rf (k2 + 1)) = true) := by unfold Hid; rw [HMK.out, ← Bool.or_assoc, ht]; rfl
                    go_wp2_with fail
                    go_quiet (fail)
                    go_wp2_with fail
                    go_roundw
                    case rel => exact ⟨k2 + 1, by omega, by go_num, by rw [HV.out], _, rfl⟩
                    case measure => simp [intOf]; omega
                · obtain rfl : k = k2 := by omega
                  go_wp2_with fail
                  go_roundw
                  case rel => exact ⟨k + 1, by omega, by go_num, by rw [HDU.out], HOK.out, _, rfl⟩
                  case measure => simp [intOf]; omega
            · have HE : Hid (payE l n = 3) := by have := HWR.out ha hnm hok; unfold Hid; rw [HEA.out (by rw [this]; decide), this]
              by_cases m1 : mo < 1
              · have m1B : decide (mo < 1) = true := decide_eq_true m1
                go_wp2_with (first
                  | (go_at_call 16; refine (isBankAccount_ref ac _ HNA).mono ?_; rintro e w' ⟨rfl, h'⟩; subst w'; rw [ha])
                  | (go_at_call 43; refine (isPayee_ref nm _ HNF).mono ?_; rintro e w' ⟨rfl, h'⟩; subst w'; rw [hnm']))
                go_ret
                exact ⟨tret_int HE.out.symm, HB.out⟩
              · have m1B : decide (mo < 1) = false := decide_eq_false m1
                by_cases m2 : 1000000000000 < mo
                · have m2B : decide (1000000000000 < mo) = true := decide_eq_true m2
                  go_wp2_with (first
                    | (go_at_call 16; refine (isBankAccount_ref ac _ HNA).mono ?_; rintro e w' ⟨rfl, h'⟩; subst w'; rw [ha])
                    | (go_at_call 43; refine (isPayee_ref nm _ HNF).mono ?_; rintro e w' ⟨rfl, h'⟩; subst w'; rw [hnm']))
                  go_ret
                  exact ⟨tret_int HE.out.symm, HB.out⟩
                · have m2B : decide (1000000000000 < mo) = false := decide_eq_false m2
                  by_cases m3 : rf < 0
                  · have m3B : decide (rf < 0) = true := decide_eq_true m3
                    go_wp2_with (first
                      | (go_at_call 16; refine (isBankAccount_ref ac _ HNA).mono ?_; rintro e w' ⟨rfl, h'⟩; subst w'; rw [ha])
                      | (go_at_call 43; refine (isPayee_ref nm _ HNF).mono ?_; rintro e w' ⟨rfl, h'⟩; subst w'; rw [hnm']))
                    go_ret
                    exact ⟨tret_int HE.out.symm, HB.out⟩
                  · have m3B : decide (rf < 0) = false := decide_eq_false m3
                    have m4 : 999999 < rf := by omega
                    have m4B : decide (999999 < rf) = true := decide_eq_true m4
                    go_wp2_with (first
                      | (go_at_call 16; refine (isBankAccount_ref ac _ HNA).mono ?_; rintro e w' ⟨rfl, h'⟩; subst w'; rw [ha])
                      | (go_at_call 43; refine (isPayee_ref nm _ HNF).mono ?_; rintro e w' ⟨rfl, h'⟩; subst w'; rw [hnm']))
                    go_ret
                    exact ⟨tret_int HE.out.symm, HB.out⟩
      · obtain rfl : n = k := by omega
        have HEA := Lib.hid (payE_all h300 HA.out)
        cases hd : dupB l n
        · rw [hd, if_neg (by simp)] at HEA
          go_wp2_with fail
          go_ret
          exact ⟨tret_int HEA.out.symm, HB.out⟩
        · rw [hd, if_pos rfl] at HEA
          go_wp2_with fail
          go_ret
          exact ⟨tret_int HEA.out.symm, HB.out⟩
end Go.Proofs.YtdfgkngfpedgdaaDoor
