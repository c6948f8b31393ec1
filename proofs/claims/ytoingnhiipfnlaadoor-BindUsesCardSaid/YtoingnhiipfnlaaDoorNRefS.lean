/-
  Promise H2: the reference's LineAt and AmountAt only read.
-/
import Derived.Test.YtoingnhiipfnlaaDoorNRefA
namespace Go.Proofs.YtoingnhiipfnlaaDoor
open Go.RowKit

set_option maxRecDepth 100000 in
set_option maxHeartbeats 2000000 in
theorem lineAt_same (a : Option Addr) (n cap : Nat) (l : List Ln) (s : ByteArray) (p : Nat) (w : World) (hc : CameL w a l) (hn : l.length = n) (hm : n ≤ maxLen) (hp : p ≤ n) :
    Calls Tryd.prog 33 #[.slice a n cap, .string s, .int .i64 p] w fun e w' => e = .returned (.int .i64 (optI (lastN (fun j => (lnth l j).name) p s))) ∧ w' = w := by
  have hm' : n ≤ 9223372036854775807 := by unfold maxLen at hm; omega
  have HO := Lib.hid (fun h0 => hc.open hn h0)
  clear hm hc
  go_enter Tryd.func33, Tryd.ntmps33
  go_wp2_with fail
  go_loop [7] (fun i => ∃ q : Nat, q ≤ p ∧ i = .int .i64 ((q : Int) - 1) ∧ lastN (fun j => (lnth l j).name) p s = lastN (fun j => (lnth l j).name) q s) (fun i => (intOf i + 1).toNat)
  case atStart => exact ⟨p, Nat.le_refl _, by go_num, rfl⟩
  case round =>
    obtain ⟨q, hq, rfl, hf⟩ := hrel
    have HF := Lib.hid hf
    clear hf
    by_cases h0 : q = 0
    · subst h0
      have HR : Hid (optI (lastN (fun j => (lnth l j).name) p s) = -1) := by unfold Hid; rw [HF.out]; rfl
      go_wp2_with fail
      go_ret
      exact ⟨kret_int HR.out.symm, rfl⟩
    · obtain ⟨r, rfl⟩ : ∃ r, q = r + 1 := ⟨q - 1, by omega⟩
      rw [show (((r + 1 : Nat) : Int) - 1) = (r : Int) by omega]
      have hr0 : (0 : Int) ≤ (r : Int) := by omega
      have hlt' : (r : Int) < (n : Int) := by omega
      obtain ⟨b, off, rfl, hcell⟩ := HO.out (by omega)
      obtain ⟨aj, cj, ⟨x0, x1, x2, x3, x4, x5⟩, _⟩ := hcell w (Below.refl _ _) r (by omega)
      clear hcell
      by_cases e : (lnth l r).name.data = s.data
      · have hE : ((lnth l r).name.toList == s.toList) = true := by rw [eqS, decide_eq_true e]
        have HR : Hid (optI (lastN (fun j => (lnth l j).name) p s) = r) := by unfold Hid; rw [HF.out, lastN_hit (f := fun j => (lnth l j).name) e]; rfl
        go_wp2_with fail
        go_ret
        exact ⟨kret_int HR.out.symm, rfl⟩
      · have hE : ((lnth l r).name.toList == s.toList) = false := by rw [eqS, decide_eq_false e]
        have HN : Hid (lastN (fun j => (lnth l j).name) p s = lastN (fun j => (lnth l j).name) r s) := by unfold Hid; rw [HF.out, lastN_skip (f := fun j => (lnth l j).name) e]
        go_wp2_with fail
        go_round
        case rel => exact ⟨r, by omega, by go_num, HN.out⟩
        case measure => simp [intOf]
set_option maxRecDepth 100000 in
set_option maxHeartbeats 2000000 in
theorem amountAt_same (a : Option Addr) (n cap : Nat) (l : List Am) (s : ByteArray) (w : World) (hc : CameA w a l) (hn : l.length = n) (hm : n ≤ maxLen) :
    Calls Tryd.prog 34 #[.slice a n cap, .string s] w fun e w' => e = .returned (.int .i64 (optI (firstN (fun j => (anth l j).name) n s))) ∧ w' = w := by
  have hm' : n ≤ 9223372036854775807 := by unfold maxLen at hm; omega
  have HO := Lib.hid (fun h0 => hc.open hn h0)
  clear hm hc
  go_enter Tryd.func34, Tryd.ntmps34
  go_wp2_with fail
  go_loop [5] (fun i => ∃ q : Nat, q ≤ n ∧ i = .int .i64 q ∧ firstN (fun j => (anth l j).name) q s = none) (fun i => n - (intOf i).toNat)
  case atStart => exact ⟨0, Nat.zero_le _, rfl, rfl⟩
  case round =>
    obtain ⟨q, hq, rfl, hf⟩ := hrel
    have HF := Lib.hid hf
    clear hf
    by_cases hlt : q < n
    · have hlt' : (q : Int) < (n : Int) := by omega
      obtain ⟨b, off, rfl, hcell⟩ := HO.out (by omega)
      obtain ⟨x0, x1⟩ := hcell w (Below.refl _ _) q hlt
      clear hcell
      by_cases e : (anth l q).name.data = s.data
      · have hE : ((anth l q).name.toList == s.toList) = true := by rw [eqS, decide_eq_true e]
        have HR : Hid (optI (firstN (fun j => (anth l j).name) n s) = q) := by unfold Hid; rw [firstN_hit (f := fun j => (anth l j).name) hlt HF.out e]; rfl
        go_wp2_with fail
        go_ret
        exact ⟨kret_int HR.out.symm, rfl⟩
      · have hE : ((anth l q).name.toList == s.toList) = false := by rw [eqS, decide_eq_false e]
        have HN : Hid (firstN (fun j => (anth l j).name) (q + 1) s = none) := firstN_miss HF.out e
        go_wp2_with fail
        go_round
        case rel => exact ⟨q + 1, by omega, by go_num, HN.out⟩
        case measure => simp [intOf]; omega
    · have hqn : q = n := by omega
      subst hqn
      have HR : Hid (optI (firstN (fun j => (anth l j).name) q s) = -1) := by unfold Hid; rw [HF.out]; rfl
      go_wp2_with fail
      go_ret
      exact ⟨kret_int HR.out.symm, rfl⟩
end Go.Proofs.YtoingnhiipfnlaaDoor
