/-
  The walk of the law CodeRuns.
-/
import Derived.Test.YtfmlbgcfildidaaDoorNQ
import Derived.Test.YtfmlbgcfildidaaDoorNR
import Derived.Test.YtfmlbgcfildidaaDoorNK
set_option linter.unusedSimpArgs false
namespace Go.Proofs.YtfmlbgcfildidaaDoor
open Go.RowKit

theorem same_nils (w : World) : Calls Tryd.prog 25 #[.slice none 0 0, .slice none 0 0] w fun e w' => e = .returned (.bool true) ∧ Below w.heap.size w w' := by
  go_enter Tryd.func25, Tryd.ntmps25
  go_wp2_with fail
  go_loopw [5] (fun i wr => i = .int .i64 0 ∧ Below w.heap.size w wr) (fun _ _ => 0)
  case atStart => exact ⟨rfl, Below.refl _ _⟩
  case round =>
    obtain ⟨rfl, hb⟩ := hrel
    have HB := Lib.hid hb
    clear hb
    go_wp2_with fail
    go_ret
    exact ⟨rfl, HB.out⟩
theorem are_nils (e : Int) (w : World) : Calls Tryd.prog 17 #[.slice none 0 0, .int .i64 e, .int .i64 e, .slice none 0 0] w fun e w' => e = .returned (.bool true) ∧ Below w.heap.size w w' := by
  by_cases h : e = 0
  · subst h
    go_enter Tryd.func17, Tryd.ntmps17
    go_wp2_with fail
    refine (same_nils _).mono ?_
    rintro e w1 ⟨rfl, hb⟩
    have HB := Lib.hid hb
    clear hb
    go_wp2_with fail
    go_ret
    exact ⟨rfl, HB.out⟩
  · have hB : (e == 0) = false := by simpa using h
    have hN : (e != 0) = true := by simpa using h
    clear h
    go_enter Tryd.func17, Tryd.ntmps17
    go_wp2_with fail
    refine (same_nils _).mono ?_
    rintro e w1 ⟨rfl, hb⟩
    have HB := Lib.hid hb
    clear hb
    go_wp2_with fail
    go_ret
    exact ⟨rfl, HB.out⟩
theorem are_rows (b b' n c c' : Nat) (F : Nat → Int) (w : World) (hn : n ≤ 1000000) (h : ∀ j, j < n → w.cell? ⟨b, j, none⟩ = some (.int .i64 (F j))) (h' : ∀ j, j < n → w.cell? ⟨b', j, none⟩ = some (.int .i64 (F j))) :
    Calls Tryd.prog 17 #[.slice (some ⟨b, 0, none⟩) n c, .int .i64 0, .int .i64 0, .slice (some ⟨b', 0, none⟩) n c'] w fun e w' => e = .returned (.bool true) ∧ Below w.heap.size w w' := by
  have HS := Lib.hid (same_rows b b' n c c' F w hn h h')
  clear h h'
  go_enter Tryd.func17, Tryd.ntmps17
  go_wp2_with fail
  refine HS.out.mono ?_
  rintro e w1 ⟨rfl, hb⟩
  have HB := Lib.hid hb
  clear hb
  go_wp2_with fail
  go_ret
  exact ⟨rfl, HB.out⟩
set_option maxRecDepth 100000 in
set_option maxHeartbeats 2000000 in
theorem walk_codeRuns (a : Option Addr) (n cap : Nat) (l : List Bk) (lines : Int) (_ : (Lit.int .i64 lines).wf = true) (a1 : Option Addr) (n1 c1 : Nat) (a2 : Option Addr) (n2 c2 : Nat) (a3 : Option Addr) (n3 c3 : Nat) (k : Kn) {w : World} (hl : CameB w a l) (hz : ∀ j, j < n → I64 (bnth l j).rate) (hn : l.length = n) (hm : n ≤ maxLen) (hc : CameK w a1 a2 a3 k) (h1 : k.ins.length = n1) (h2 : k.tbs.length = n2) (h3 : k.yrs.length = n3) (hE : Eff w) :
    Calls Tryd.prog 7 #[.slice a n cap, .int .i64 lines, .agg #[.slice a1 n1 c1, .slice a2 n2 c2, .slice a3 n3 c3]] w fun e w' => e = .returned (.bool true) ∧ Below w.heap.size w w' := by
  have HB0 := Lib.hid (kbelow_box w (.cells #[.slice a1 n1 c1, .slice a2 n2 c2, .slice a3 n3 c3] 25))
  have HKB := Lib.hid (Cbx.made w [.slice a1 n1 c1, .slice a2 n2 c2, .slice a3 n3 c3] 25)
  have HE := Lib.hid hE
  have HRN := Lib.hid (fun w' (hb : Below w.heap.size w w') => CRun_any a n cap l lines a1 a2 a3 n1 n2 n3 c1 c2 c3 k w' (hl.below hb) hn hm (hc.below hb) h1 h2 h3 (hE.below hb) hz)
  have HRF := Lib.hid (fun w' (hb : Below w.heap.size w w') => checkProgram_ref a n cap l lines a1 a2 a3 n1 n2 n3 c1 c2 c3 k w' (hl.below hb) hn hm (hc.below hb) h1 h2 h3 hz)
  have HRP := Lib.hid (fun (L : Nat) w' (hb : Below w.heap.size w w') hp hr => runProgram_ref a n cap l L a1 a2 a3 n1 n2 n3 c1 c2 c3 k w' (hl.below hb) hn (hc.below hb) h1 h2 h3 hz hp hr)
  have HLN := Lib.hid (And.intro h1 (And.intro h2 h3))
  clear hl hz hn hm hc h1 h2 h3 hE
  have x0 := HKB.out.at 0 rfl
  have x1 := HKB.out.at 1 rfl
  have x2 := HKB.out.at 2 rfl
  go_enter Tryd.func7, Tryd.ntmps7
  go_wp2_with fail
  refine (HRN.out _ HB0.out).mono ?_
  rintro e w1 ⟨hb1, ⟨h0, rfl⟩ | ⟨h0, s, hre, hin, hend⟩⟩
  · have HB1 := Lib.hid (HB0.out.trans (hb1.mono HB0.out.size))
    replace HKB := Lib.hid (HKB.out.below hb1 HKB.out.lt)
    clear hb1 x0 x1 x2 HRN
    have x0 := HKB.out.at 0 rfl
    have x1 := HKB.out.at 1 rfl
    have x2 := HKB.out.at 2 rfl
    have hcB : (chkE k l lines == 0) = false := by simpa using h0
    have hcN : (chkE k l lines != 0) = true := by simpa using h0
    clear h0
    generalize chkE k l lines = ce at *
    go_wp2_with fail
    refine (HRF.out _ HB1.out).mono ?_
    rintro e w5 ⟨rfl, hb5⟩
    have HB5 := Lib.hid (HB1.out.trans (hb5.mono HB1.out.size))
    clear hb5 x0 x1 x2 HRF
    generalize chkN k l lines = cn at *
    go_wp2_with fail
    refine (codeBegun_any _ (HE.out.below HB5.out)).mono ?_
    rintro e w6 ⟨rfl, hb6⟩
    have HB6 := Lib.hid (HB5.out.trans (hb6.mono HB5.out.size))
    have HB68 := Lib.hid hb6
    have HNA := Lib.hid (are_nils ce w6)
    clear hb6
    go_wp2_with fail
    refine HNA.out.mono ?_
    rintro e w7 ⟨rfl, hb7⟩
    have HB7 := Lib.hid (HB6.out.trans (hb7.mono HB6.out.size))
    clear hb7
    go_wp2_with fail
    go_ret
    exact ⟨rfl, HB7.out⟩
  · have HB1 := Lib.hid (HB0.out.trans (hb1.mono HB0.out.size))
    replace HKB := Lib.hid (HKB.out.below hb1 HKB.out.lt)
    clear hb1 x0 x1 x2 HRN
    have x0 := HKB.out.at 0 rfl
    have x1 := HKB.out.at 1 rfl
    have x2 := HKB.out.at 2 rfl
    obtain ⟨hps, hkn0⟩ := chk_pass h0
    rw [HLN.out.1, HLN.out.2.1, HLN.out.2.2] at hps
    obtain ⟨L, rfl⟩ : ∃ L : Nat, lines = (L : Int) := ⟨lines.toNat, by have := hps.l0; omega⟩
    have hL40 : L ≤ 40 := by have := hps.l40; omega
    have HPS := Lib.hid hps
    have HKR := Lib.hid (kn_right hkn0)
    have HH := Lib.hid h0
    rw [Int.toNat_natCast] at hend hin
    have HRE := Lib.hid hre
    clear hps hkn0 h0 hre hin
    rcases hend with ⟨hat, vb, rfl, hv1, hv2, hv3⟩ | ⟨hat, hms, rfl⟩
    · have HFI : Hid (Fin k l s) := .inl hat
      have HV1 : Hid (vb < w1.heap.size ∧ ∀ j, j < L → w1.cell? ⟨vb, j, none⟩ = some (.int .i64 (s.V j))) := ⟨hv2, hv3⟩
      clear hv1 hv2 hv3
      go_wp2_with fail
      refine (HRF.out _ HB1.out).mono ?_
      rintro e w5 ⟨rfl, hb5⟩
      have HB5 := Lib.hid (HB1.out.trans (hb5.mono HB1.out.size))
      have HV5 : Hid (vb < w5.heap.size ∧ ∀ j, j < L → w5.cell? ⟨vb, j, none⟩ = some (.int .i64 (s.V j))) := ⟨Nat.lt_of_lt_of_le HV1.out.1 hb5.size, fun j hj => (hb5.cell (p := ⟨vb, j, none⟩) HV1.out.1).trans (HV1.out.2 j hj)⟩
      replace HKB := Lib.hid (HKB.out.below hb5 HKB.out.lt)
      clear hb5 x0 x1 x2 HRF
      have x0 := HKB.out.at 0 rfl
      have x1 := HKB.out.at 1 rfl
      have x2 := HKB.out.at 2 rfl
      rw [HH.out]
      generalize chkN k l (L : Int) = cn at *
      go_wp2_with fail
      refine (HRP.out L _ HB5.out HPS.out HKR.out).mono ?_
      rintro e w8 ⟨hb8, s', hre', hin', ⟨hat', vb', rfl, hv1, hv2, hv3⟩ | ⟨hat', hms', rfl⟩⟩
      · have hss : s' = s := HRE.out.one hre' HFI.out (.inl hat')
        subst hss
        have HV8 : Hid (∀ j, j < L → w8.cell? ⟨vb, j, none⟩ = some (.int .i64 (s'.V j))) := fun j hj => (hb8.cell (p := ⟨vb, j, none⟩) HV5.out.1).trans (HV5.out.2 j hj)
        have HV9 : Hid (vb' < w8.heap.size ∧ ∀ j, j < L → w8.cell? ⟨vb', j, none⟩ = some (.int .i64 (s'.V j))) := ⟨hv2, hv3⟩
        have HLV : Hid (vb < w8.heap.size) := Nat.lt_of_lt_of_le HV5.out.1 hb8.size
        have HB5' := Lib.hid (HB5.out.trans (hb8.mono HB5.out.size))
        clear hb8 hre' hin' hat' hv1 hv2 hv3 HB5 x0 x1 x2
        have HB5 := HB5'
        have HBS : Hid (∀ w', Below w8.heap.size w8 w' → Calls Tryd.prog 17 #[.slice (some ⟨vb, 0, none⟩) L L, .int .i64 0, .int .i64 0, .slice (some ⟨vb', 0, none⟩) L L] w' fun e w'' => e = .returned (.bool true) ∧ Below w'.heap.size w' w'') := fun w' hb => are_rows vb vb' L L L s'.V w' (by omega) (fun j hj => (hb.cell (p := ⟨vb, j, none⟩) HLV.out).trans (HV8.out j hj)) (fun j hj => (hb.cell (p := ⟨vb', j, none⟩) HV9.out.1).trans (HV9.out.2 j hj))
        go_wp2_with fail
        refine (codeBegun_any _ (HE.out.below HB5.out)).mono ?_
        rintro e w6 ⟨rfl, hb6⟩
        have HB6 := Lib.hid (HB5.out.trans (hb6.mono HB5.out.size))
        have HB68 := Lib.hid hb6
        have HNA := Lib.hid (HBS.out w6 HB68.out)
        clear hb6
        go_wp2_with fail
        refine HNA.out.mono ?_
        rintro e w7 ⟨rfl, hb7⟩
        have HB7 := Lib.hid (HB6.out.trans (hb7.mono HB6.out.size))
        clear hb7
        go_wp2_with fail
        go_ret
        exact ⟨rfl, HB7.out⟩
      · have hss : s' = s := HRE.out.one hre' HFI.out (.inr ⟨hat', hms'⟩)
        subst hss
        omega
    · have HFI : Hid (Fin k l s) := .inr ⟨hat, hms⟩
      clear hms
      go_wp2_with fail
      refine (HRF.out _ HB1.out).mono ?_
      rintro e w5 ⟨rfl, hb5⟩
      have HB5 := Lib.hid (HB1.out.trans (hb5.mono HB1.out.size))
      replace HKB := Lib.hid (HKB.out.below hb5 HKB.out.lt)
      clear hb5 x0 x1 x2 HRF
      have x0 := HKB.out.at 0 rfl
      have x1 := HKB.out.at 1 rfl
      have x2 := HKB.out.at 2 rfl
      rw [HH.out]
      generalize chkN k l (L : Int) = cn at *
      go_wp2_with fail
      refine (HRP.out L _ HB5.out HPS.out HKR.out).mono ?_
      rintro e w8 ⟨hb8, s', hre', hin', ⟨hat', vb', rfl, hv1, hv2, hv3⟩ | ⟨hat', hms', rfl⟩⟩
      · have hss : s' = s := HRE.out.one hre' HFI.out (.inl hat')
        subst hss
        omega
      · have hss : s' = s := HRE.out.one hre' HFI.out (.inr ⟨hat', hms'⟩)
        subst hss
        have HB5' := Lib.hid (HB5.out.trans (hb8.mono HB5.out.size))
        clear hb8 hre' hin' hat hat' hms' HB5 x0 x1 x2
        have HB5 := HB5'
        generalize s'.at_ = pl
        go_wp2_with fail
        refine (codeBegun_any _ (HE.out.below HB5.out)).mono ?_
        rintro e w6 ⟨rfl, hb6⟩
        have HB6 := Lib.hid (HB5.out.trans (hb6.mono HB5.out.size))
        have HB68 := Lib.hid hb6
        have HNA := Lib.hid (are_nils 3 w6)
        clear hb6
        go_wp2_with fail
        refine HNA.out.mono ?_
        rintro e w7 ⟨rfl, hb7⟩
        have HB7 := Lib.hid (HB6.out.trans (hb7.mono HB6.out.size))
        clear hb7
        go_wp2_with fail
        go_ret
        exact ⟨rfl, HB7.out⟩
end Go.Proofs.YtfmlbgcfildidaaDoor
