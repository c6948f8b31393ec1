/-
  The walk of the law RulesBack.
-/
import Derived.Test.YtchiifnciijagaaGreatDoorRT
import Derived.Test.YtchiifnciijagaaGreatDoorRL
set_option linter.unusedSimpArgs false
namespace Go.Proofs.YtchiifnciijagaaGreatDoor
open Go.RowKit

theorem CameL.full {w : World} {a : Option Addr} {l : List Ln} (h : CameL w a l) : ∀ j, j < l.length → (lnth l j).ex.full := fun j hj => by
  rcases h with h | ⟨b, off, rfl, hB, h⟩
  · omega
  · obtain ⟨_, _, _, _, hk⟩ := h j hj
    exact hk.full
theorem prnE_ok {l : List Ln} (h : prnE l = 0) : linesE l = 0 ∧ (lnsTx l l.length).length ≤ 4000 ∧ prnT l = lnsTx l l.length := by
  unfold prnE at h
  by_cases h1 : linesE l = 0
  · rw [if_pos h1] at h
    by_cases h2 : (lnsTx l l.length).length ≤ 4000
    · exact ⟨h1, h2, by unfold prnT; rw [if_pos ⟨h1, h2⟩]⟩
    · rw [if_neg h2] at h; cases h
  · rw [if_neg h1] at h; exact absurd h h1
/-- What is printed of lines, parsed. -/
theorem parse_printed {l : List Ln} (h : prnE l = 0) (hf : ∀ j, j < l.length → (lnth l j).ex.full) {w' : World} {B : Nat} {e : Ending} (hp : ParseR ⟨(prnT l).toArray⟩ w' B e) :
    ∃ l' x c, likes l l' ∧ e = .returned (.tuple #[.slice x l'.length c, .agg #[.int .i64 0, .int .i64 0]]) ∧ CameF w' B x l' := by
  obtain ⟨h1, h2, h3⟩ := prnE_ok h
  have hS : (⟨(prnT l).toArray⟩ : ByteArray).data.toList = lnsTx l l.length := by rw [← h3]
  obtain ⟨L, l', hT, hl, hlk⟩ := print_parse h1 hf hS
  have hz : (⟨(prnT l).toArray⟩ : ByteArray).size ≤ 4000 := by
    have : (⟨(prnT l).toArray⟩ : ByteArray).data.toList.length = (⟨(prnT l).toArray⟩ : ByteArray).size := Array.length_toList
    rw [← this, hS]
    exact h2
  obtain ⟨x, c, e1, e2⟩ := parse_right hz hT hl hp
  exact ⟨l', x, c, hlk, e1, e2⟩
theorem prn_size (l : List Ln) : (⟨(prnT l).toArray⟩ : ByteArray).size ≤ 4000 := by
  have : (⟨(prnT l).toArray⟩ : ByteArray).data.toList.length = (⟨(prnT l).toArray⟩ : ByteArray).size := Array.length_toList
  rw [← this]
  show (prnT l).length ≤ 4000
  unfold prnT
  split
  · rename_i h; exact h.2
  · exact Nat.zero_le _
set_option maxRecDepth 100000 in
set_option maxHeartbeats 2000000 in
theorem walk_rulesBack (a : Option Addr) (n cap : Nat) (l : List Ln) {w : World} (hl : CameL w a l) (hn : l.length = n) (hm : n ≤ maxLen) (hP : PVars w ∧ Shp w ∧ Mny.Tab w) :
    Calls Tryz.prog 5 #[.slice a n cap] w fun e w' => e = .returned (.bool true) ∧ Below w.heap.size w w' := by
  have HL := Lib.hid hl
  have HN := Lib.hid hn
  have HM := Lib.hid hm
  have HV : Hid (RVars w) := ⟨hP.1, hP.2.1, hP.2.2⟩
  clear hl hn hm hP
  go_enter Tryz.func5, Tryz.ntmps5
  go_wp2_with fail
  refine (rulesBegun_any _ HV.out).mono ?_
  rintro e w1 ⟨rfl, hb1⟩
  have HB1 := Lib.hid hb1
  clear hb1
  go_wp2_with fail
  refine (print_rv a n cap l _ (HV.out.below HB1.out) (HL.out.below HB1.out) HN.out HM.out).mono ?_
  rintro e w2 ⟨rfl, hb2⟩
  have HB2 := Lib.hid (HB1.out.trans (hb2.mono HB1.out.size))
  clear hb2
  by_cases h0 : prnE l = 0
  · have HE := Lib.hid h0
    rw [h0]
    have HPZ := Lib.hid (Parse_any ⟨(prnT l).toArray⟩ w2 (Nat.le_trans (prn_size l) (by decide)) (HV.out.below HB2.out).pv)
    have HPP := Lib.hid (fun w' (e : Ending) (hp : ParseR ⟨(prnT l).toArray⟩ w' w2.heap.size e) => parse_printed HE.out HL.out.full hp)
    clear h0
    generalize (⟨(prnT l).toArray⟩ : ByteArray) = S at *
    go_wp2_with fail
    refine HPZ.out.mono ?_
    rintro e w3 ⟨hp, hb3⟩
    obtain ⟨l', x, c, hlk, rfl, hc⟩ := HPP.out _ _ hp
    have HLK := Lib.hid hlk
    have HLE : Hid (l'.length = n) := (likes_at hlk).1.trans HN.out
    rw [HLE.out]
    have HB3 := Lib.hid (HB2.out.trans (hb3.mono HB2.out.size))
    have HBX := Lib.hid (kbelow_box w3 (.cells #[.int .i64 0, .int .i64 0] 32))
    have HB4 := Lib.hid (HB3.out.trans (HBX.out.mono HB3.out.size))
    have HC4 := Lib.hid (hc.came.below HBX.out)
    clear hp hb3 hlk hc
    go_wp2_with fail
    refine (sameLines_likes a x n cap c l l' _ (HL.out.below HB4.out) HC4.out HLK.out HN.out HM.out).mono ?_
    rintro e w5 ⟨rfl, hb5⟩
    have HB5 := Lib.hid (HB4.out.trans (hb5.mono HB4.out.size))
    clear hb5
    go_wp2_with fail
    go_ret
    exact ⟨rfl, HB5.out⟩
  · have hz : (prnE l != 0) = true := by simp [h0]
    have hzB : (prnE l == 0) = false := by simp [h0]
    clear h0
    generalize prnE l = y at *
    go_wp2_with fail
    go_ret
    exact ⟨rfl, HB2.out⟩
end Go.Proofs.YtchiifnciijagaaGreatDoor
