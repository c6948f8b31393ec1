/-
  The walk of the law CodeEnds.
-/
import Derived.Test.YtfmlbgcfildidaaDoorNK
set_option linter.unusedSimpArgs false
namespace Go.Proofs.YtfmlbgcfildidaaDoor
open Go.RowKit

set_option maxRecDepth 100000 in
set_option maxHeartbeats 2000000 in
theorem walk_codeEnds (a : Option Addr) (n cap : Nat) (l : List Bk) (lines : Int) (_ : (Lit.int .i64 lines).wf = true) (a1 : Option Addr) (n1 c1 : Nat) (a2 : Option Addr) (n2 c2 : Nat) (a3 : Option Addr) (n3 c3 : Nat) (k : Kn) {w : World} (hl : CameB w a l) (hz : ∀ j, j < n → I64 (bnth l j).rate) (hn : l.length = n) (hm : n ≤ maxLen) (hc : CameK w a1 a2 a3 k) (h1 : k.ins.length = n1) (h2 : k.tbs.length = n2) (h3 : k.yrs.length = n3) (hE : Eff w) :
    Calls Tryd.prog 8 #[.slice a n cap, .int .i64 lines, .agg #[.slice a1 n1 c1, .slice a2 n2 c2, .slice a3 n3 c3]] w fun e w' => e = .returned (.bool true) ∧ Below w.heap.size w w' := by
  have HB0 := Lib.hid (kbelow_box w (.cells #[.slice a1 n1 c1, .slice a2 n2 c2, .slice a3 n3 c3] 25))
  have HKB := Lib.hid (Cbx.made w [.slice a1 n1 c1, .slice a2 n2 c2, .slice a3 n3 c3] 25)
  have HE := Lib.hid hE
  have HN := Lib.hid hn
  have HCH := Lib.hid (fun w' (hb : Below w.heap.size w w') => CCheck_any a n cap l lines a1 a2 a3 n1 n2 n3 c1 c2 c3 k w' (hl.below hb) hn hm (hc.below hb) h1 h2 h3 (hE.below hb) hz)
  have HRN := Lib.hid (fun w' (hb : Below w.heap.size w w') => CRun_any a n cap l lines a1 a2 a3 n1 n2 n3 c1 c2 c3 k w' (hl.below hb) hn hm (hc.below hb) h1 h2 h3 (hE.below hb) hz)
  clear hl hz hn hm hc h1 h2 h3 hE
  go_enter Tryd.func8, Tryd.ntmps8
  go_wp2_with fail
  refine (codeBegun_any _ (HE.out.below HB0.out)).mono ?_
  rintro e w1 ⟨rfl, hb1⟩
  have HB1 := Lib.hid (HB0.out.trans (hb1.mono HB0.out.size))
  replace HKB := Lib.hid (HKB.out.below hb1 HKB.out.lt)
  have x0 := HKB.out.at 0 rfl
  have x1 := HKB.out.at 1 rfl
  have x2 := HKB.out.at 2 rfl
  clear hb1
  go_wp2_with fail
  refine (HCH.out _ HB1.out).mono ?_
  rintro e w2 ⟨rfl, hb2⟩
  have HB2 := Lib.hid (HB1.out.trans (hb2.mono HB1.out.size))
  replace HKB := Lib.hid (HKB.out.below hb2 HKB.out.lt)
  clear hb2 x0 x1 x2 HCH
  by_cases hce : chkE k l lines = 0
  · have HCE := Lib.hid hce
    rw [hce]
    clear hce
    have x0 := HKB.out.at 0 rfl
    have x1 := HKB.out.at 1 rfl
    have x2 := HKB.out.at 2 rfl
    generalize chkN k l lines = cn
    go_wp2_with fail
    refine (HRN.out _ HB2.out).mono ?_
    rintro e w3 ⟨hb3, ⟨h0, _⟩ | ⟨_, s, hre, hin, ⟨hat, vb, rfl, hv1, hv2, hv3⟩ | ⟨hat, hms, rfl⟩⟩⟩
    · exact absurd HCE.out h0
    · have HB3 := Lib.hid (HB2.out.trans (hb3.mono HB2.out.size))
      have hps := (chk_pass HCE.out).1
      obtain ⟨L, rfl⟩ : ∃ L : Nat, lines = (L : Int) := ⟨lines.toNat, by have := hps.l0; omega⟩
      have hL40 : L ≤ 40 := by have := hps.l40; omega
      have HV : Hid (∀ j, j < L → w3.cell? ⟨vb, j, none⟩ = some (.int .i64 (s.V j)) ∧ monB (s.V j) = true) := fun j hj => ⟨hv3 j (by rw [Int.toNat_natCast]; exact hj), hin.V j (by rw [Int.toNat_natCast]; exact hj)⟩
      have hLL : ((L : Int)).toNat = L := Int.toNat_natCast L
      rw [hLL]
      clear hLL hps hb3 hre hin hat hv1 hv2 hv3 x0 x1 x2
      go_wp2_with fail
      go_loopw [12] (fun i wr => ∃ j : Nat, j ≤ L ∧ i = .int .i64 j ∧ Below w3.heap.size w3 wr) (fun i _ => L - (intOf i).toNat)
      case atStart => exact ⟨0, Nat.zero_le _, rfl, Below.refl _ _⟩
      case round =>
        obtain ⟨j, hj, rfl, hb⟩ := hrel
        have HB := Lib.hid hb
        clear hb
        by_cases hlt : j < L
        · have hlt' : (j : Int) < (L : Int) := by omega
          have y0 : wr.cell? ⟨vb, j, none⟩ = some (.int .i64 (s.V j)) := (HB.out.cell (p := ⟨vb, j, none⟩) (blt_of_cell (HV.out j hlt).1)).trans (HV.out j hlt).1
          have HMJ := Lib.hid (fun w' => isMoney_ref (s.V j) w')
          rw [(HV.out j hlt).2] at HMJ
          generalize s.V j = sv at y0 HMJ
          go_wp2_with fail
          refine (HMJ.out _).mono ?_
          rintro e w4 ⟨rfl, h4⟩
          subst w4
          go_wp2_with fail
          go_roundw
          case rel => exact ⟨j + 1, by omega, by go_num, HB.out⟩
          case measure => simp [intOf]; omega
        · obtain rfl : j = L := by omega
          go_wp2_with fail
          go_ret
          exact ⟨rfl, HB3.out.trans (HB.out.mono HB3.out.size)⟩
    · have HB3 := Lib.hid (HB2.out.trans (hb3.mono HB2.out.size))
      have hatn : (s.at_ : Int) < (n : Int) := by have := HN.out; omega
      have hatD : decide (s.at_ < n) = true := decide_eq_true (by omega)
      clear hb3 hre hin hms x0 x1 x2
      go_wp2_with fail
      go_ret
      exact ⟨rfl, HB3.out⟩
  · have hcB : (chkE k l lines == 0) = false := by simpa using hce
    have hcN : (chkE k l lines != 0) = true := by simpa using hce
    clear hce
    generalize chkE k l lines = ce at *
    generalize chkN k l lines = cn
    go_wp2_with fail
    go_ret
    exact ⟨rfl, HB2.out⟩
end Go.Proofs.YtfmlbgcfildidaaDoor
