/-
  Promise G2: walks of the reference's TaxOf and RateOf.
-/
import Derived.Test.YtmiijmgidbbmhaaKTax
namespace Go.Proofs.Ytmiijmgidbbmhaa
open Go.RowKit

set_option maxRecDepth 100000 in
set_option maxHeartbeats 1000000 in
theorem taxOf_ref (s : ByteArray) (a : Option Addr) (n cap : Nat) (l : List Bk) (base : Int) (w : World) (hc : CameB w a l) (hn : l.length = n) (hl : Right l) (h1 : -1000000000000 ≤ base) (h2 : base ≤ 1000000000000) :
    Calls Try.prog 17 #[.agg #[.string s, .slice a n cap], .int .i64 base] w fun e w' => e = .returned (.int .i64 (taxN l base)) ∧ Below w.heap.size w w' := by
  have hn12 : n ≤ 12 := by rw [← hn]; exact hl.2.1
  have hn1 : 1 ≤ n := by rw [← hn]; exact hl.1
  have HL := Lib.hid hl
  obtain ⟨b, off, rfl, hcell⟩ := hc.open hn (by rw [← hn]; exact hl.1)
  have HO := Lib.hid hcell
  clear hcell hc hl
  have HB0 := Lib.hid (kbelow_box w (.cells #[.string s, .slice (some ⟨b, off, none⟩) n cap] 24))
  obtain ⟨_, x0, x1⟩ := TIs.made w s (some ⟨b, off, none⟩) n cap 24
  go_enter Try.func17, Try.ntmps17
  go_wp2_with fail
  go_loop [5, 6] (fun p i => ∃ k : Nat, k ≤ n ∧ i = .int .i64 k ∧ p = .int .i64 (rP l base k)) (fun _ i => n - (intOf i).toNat)
  case atStart => exact ⟨0, Nat.zero_le _, rfl, rfl⟩
  case round =>
    obtain ⟨k, hk, rfl, rfl⟩ := hrel
    have hpb := rP_bound HL.out h2 k (by omega)
    by_cases hlt : k < n
    · have hlt' : (k : Int) < (n : Int) := by omega
      obtain ⟨y0, y1⟩ := HO.out _ HB0.out k hlt
      have hq := right_nth HL.out (j := k) (by omega)
      have hpb2 := rP_bound HL.out h2 (k + 1) (by omega)
      have HS : Hid (rP l base k + hb l base k * more l k = rP l base (k + 1)) := rfl
      have HH : Hid (hb l base k = max 0 (base - (bnth l k).frm)) := by unfold Hid hb; rw [if_pos (by omega)]
      by_cases hk0 : k = 0
      · subst hk0
        have HMo : Hid (more l 0 = (bnth l 0).rate) := rfl
        simp only [Nat.zero_mul, Nat.add_zero] at y0 y1
        by_cases hb0 : (bnth l 0).frm < base
        · have HV : Hid ((base - (bnth l 0).frm) * (bnth l 0).rate = hb l base 0 * more l 0) := by unfold Hid; rw [HH.out, HMo.out, show max 0 (base - (bnth l 0).frm) = base - (bnth l 0).frm by omega]
          go_wp2_with fail
          go_round
          case rel =>
            have hS := HS.out
            refine ⟨0 + 1, by omega, by go_num, ?_⟩
            rw [HV.out, IntWalk.wrap64_in (hb l base 0 * more l 0) (by omega), IntWalk.wrap64_in _ (by omega), HS.out]
          case measure => simp [intOf]; omega
        · have hbB : decide ((bnth l 0).frm < base) = false := decide_eq_false hb0
          have HV : Hid (rP l base 0 = rP l base (0 + 1)) := by unfold Hid; rw [← HS.out, HH.out, show max 0 (base - (bnth l 0).frm) = 0 by omega]; omega
          go_wp2_with fail
          go_round
          case rel => exact ⟨0 + 1, by omega, by go_num, by rw [← HV.out]⟩
          case measure => simp [intOf]; omega
      · obtain ⟨q, rfl⟩ : ∃ q, k = q + 1 := ⟨k - 1, by omega⟩
        obtain ⟨_, z1⟩ := HO.out _ HB0.out q (by omega)
        have hq' := right_nth HL.out (j := q) (by omega)
        rw [show ((q + 1 : Nat) : Int) = (q : Int) + 1 by omega]
        rw [show ((q + 1 : Nat) : Int) = (q : Int) + 1 by omega] at hlt'
        have hsub : (q : Int) + 1 - 1 = (q : Int) := by omega
        have htn : ((q : Int) + 1).toNat = q + 1 := by omega
        have hlq : (q : Int) < (n : Int) := by omega
        have hp' : (0 : Int) < (q : Int) + 1 := by omega
        have HMo : Hid (more l (q + 1) = (bnth l (q + 1)).rate - (bnth l q).rate) := by unfold Hid more; rw [if_neg (by omega)]; rfl
        by_cases hb0 : (bnth l (q + 1)).frm < base
        · have HV : Hid ((base - (bnth l (q + 1)).frm) * ((bnth l (q + 1)).rate - (bnth l q).rate) = hb l base (q + 1) * more l (q + 1)) := by unfold Hid; rw [HH.out, HMo.out, show max 0 (base - (bnth l (q + 1)).frm) = base - (bnth l (q + 1)).frm by omega]
          have hS := HS.out
          go_wp2_with fail
          go_round
          case rel =>
            refine ⟨q + 1 + 1, by omega, by go_num, ?_⟩
            rw [HV.out, IntWalk.wrap64_in (hb l base (q + 1) * more l (q + 1)) (by omega), IntWalk.wrap64_in _ (by omega), HS.out]
          case measure => simp [intOf]; omega
        · have hbB : decide ((bnth l (q + 1)).frm < base) = false := decide_eq_false hb0
          have HV : Hid (rP l base (q + 1) = rP l base (q + 1 + 1)) := by unfold Hid; rw [← HS.out, HH.out, show max 0 (base - (bnth l (q + 1)).frm) = 0 by omega]; omega
          go_wp2_with fail
          go_round
          case rel => exact ⟨q + 1 + 1, by omega, by go_num, by rw [← HV.out]⟩
          case measure => simp [intOf]; omega
    · have hkn : k = n := by omega
      subst hkn
      have HE : Hid (rd (rP l base k) 10000 5 = taxN l base) := by unfold Hid taxN; rw [pr_same HL.out.1, hn]
      go_wp2_with fail
      refine (rounded_ref _ 10000 5 _ (by omega) (by omega) (by omega) (by omega) (by omega)).mono ?_
      rintro e w2 ⟨rfl, h'⟩
      subst w2
      go_wp2_with fail
      go_ret
      exact ⟨kret_int HE.out, HB0.out⟩
set_option maxRecDepth 100000 in
set_option maxHeartbeats 1000000 in
theorem rateOf_ref (s : ByteArray) (a : Option Addr) (n cap : Nat) (l : List Bk) (base : Int) (w : World) (hc : CameB w a l) (hn : l.length = n) (hl : 1 ≤ n) (h12 : n ≤ 12) :
    Calls Try.prog 20 #[.agg #[.string s, .slice a n cap], .int .i64 base] w fun e w' => e = .returned (.int .i64 (rateN l base)) ∧ Below w.heap.size w w' := by
  obtain ⟨b, off, rfl, hcell⟩ := hc.open hn (by omega)
  have HO := Lib.hid hcell
  clear hcell hc
  have HB0 := Lib.hid (kbelow_box w (.cells #[.string s, .slice (some ⟨b, off, none⟩) n cap] 24))
  obtain ⟨_, x0, x1⟩ := TIs.made w s (some ⟨b, off, none⟩) n cap 24
  go_enter Try.func20, Try.ntmps20
  go_wp2_with fail
  go_loop [5] (fun i => ∃ k : Nat, k < n ∧ i = .int .i64 k ∧ rU l base n = rU l base (k + 1)) (fun i => (intOf i).toNat)
  case atStart => exact ⟨n - 1, by omega, by go_num, by rw [show n - 1 + 1 = n by omega]⟩
  case round =>
    obtain ⟨k, hk, rfl, hU⟩ := hrel
    have HU := Lib.hid hU
    clear hU
    have hlt' : (k : Int) < (n : Int) := by omega
    obtain ⟨y0, y1⟩ := HO.out _ HB0.out k hk
    by_cases hk0 : k = 0
    · subst hk0
      simp only [Nat.zero_mul, Nat.add_zero] at y0 y1
      have HE : Hid ((bnth l 0).rate = rateN l base) := by
        unfold Hid rateN
        rw [hn, HU.out]
        simp only [rU]
        split <;> rfl
      go_wp2_with fail
      go_ret
      exact ⟨kret_int HE.out, HB0.out⟩
    · have hp' : (0 : Int) < (k : Int) := by omega
      by_cases hb0 : base ≤ (bnth l k).frm
      · have HS : Hid (rU l base n = rU l base (k - 1 + 1)) := by
          unfold Hid
          rw [HU.out, show k - 1 + 1 = k by omega]
          simp only [rU]
          rw [if_neg (by omega)]
        go_wp2_with fail
        go_round
        case rel => exact ⟨k - 1, by omega, by go_num, HS.out⟩
        case measure => simp [intOf]; omega
      · have hbB : decide (base ≤ (bnth l k).frm) = false := decide_eq_false hb0
        have HE : Hid ((bnth l k).rate = rateN l base) := by
          unfold Hid rateN
          rw [hn, HU.out]
          simp only [rU]
          rw [if_pos (by omega)]
        go_wp2_with fail
        go_ret
        exact ⟨kret_int HE.out, HB0.out⟩
end Go.Proofs.Ytmiijmgidbbmhaa
