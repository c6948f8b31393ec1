/-
  The walks of the laws SheetBack and SheetParses: each answers true at every input, in every world that holds the library's table and a number in its variable MaxLen.
-/
import Derived.Test.YtmchanddfodhaaaDoorShPar
import Derived.Test.YtmchanddfodhaaaDoorLSheetPrints
namespace Go.Proofs.YtmchanddfodhaaaDoor
open Go.RowKit Mny

set_option maxRecDepth 100000 in
set_option maxHeartbeats 2000000 in
theorem sameAmounts_yes (x y : Option Addr) (n c d : Nat) (l : List Am) (w : World) (hx : CameA w x l) (hy : CameA w y l) (hn : l.length = n) (hm : n ≤ 9223372036854775807) :
    Calls Tryd.prog 13 #[.slice x n c, .slice y n d] w fun e w' => e = .returned (.bool true) ∧ ∃ q, w' = w.drewN q := by
  have HX := Lib.hid (fun h0 => hx.open hn h0)
  have HY := Lib.hid (fun h0 => hy.open hn h0)
  have hnn : ((n : Int) != (n : Int)) = false := by simp
  clear hx hy hn
  go_enter Tryd.func13, Tryd.ntmps13
  go_wp2_with fail
  go_loopw [5] (fun i wr => ∃ k : Nat, k ≤ n ∧ i = .int .i64 k ∧ ∃ q, wr = w.drewN q) (fun i _ => n - (intOf i).toNat)
  case atStart => exact ⟨0, Nat.zero_le _, rfl, 0, rfl⟩
  case round =>
    obtain ⟨k, hk, rfl, q, rfl⟩ := hrel
    by_cases hlt : k < n
    · have hlt' : (k : Int) < (n : Int) := by omega
      obtain ⟨b1, o1, rfl, hc1⟩ := HX.out (by omega)
      obtain ⟨b2, o2, rfl, hc2⟩ := HY.out (by omega)
      obtain ⟨x0, x1⟩ := hc1 w (Below.refl _ _) k hlt
      obtain ⟨y0, y1⟩ := hc2 w (Below.refl _ _) k hlt
      clear hc1 hc2
      generalize (anth l k).name = nm at *
      generalize (anth l k).mon = mo at *
      go_wp2_with fail
      go_quiet (fail)
      go_wp2_with fail
      go_roundw
      case rel => exact ⟨k + 1, by omega, by go_num, _, rfl⟩
      case measure => simp [intOf]; omega
    · go_wp2_with fail
      go_ret
      exact ⟨rfl, _, rfl⟩
/-- What the walks ask of the world. -/
def TabM (w : World) : Prop := Tab w ∧ MaxL w
theorem TabM.below {w w' : World} (h : TabM w) (hb : Below w.heap.size w w') : TabM w' := ⟨h.1.below hb, h.2.below hb⟩
theorem shT_ok {l : List Am} {n : Nat} {x : Int} (hl : l.length = n) (h : shE l n x = 0) : psB (shT l n x) = true ∧ rdL (shT l n x) = l ∧ rdW (shT l n x) = x ∧ ((shT l n x).size : Int) = ((n : Int) + 1) * (x + 1) := by
  obtain ⟨h1, h2, h3⟩ := printed_read hl h
  refine ⟨?_, h1, h2, h3⟩
  unfold psB
  rw [h1, h2, hl, h]
  simp
set_option maxRecDepth 100000 in
set_option maxHeartbeats 2000000 in
theorem walk_sheetBack (a : Option Addr) (n cap : Nat) (l : List Am) (x : Int) (_ : (Lit.int .i64 x).wf = true) (w : World) (hc : CameA w a l) (hf : NamesFit l) (hn : l.length = n) (hm : n ≤ maxLen) (ht : TabM w) :
    Calls Tryd.prog 5 #[.slice a n cap, .int .i64 x] w fun e w' => e = .returned (.bool true) ∧ Below w.heap.size w w' := by
  have HP := Lib.hid (fun w ht hc => Print_any a n cap l x w ht hc hf hn (by unfold maxLen at hm; omega))
  have HT := Lib.hid ht
  have HC := Lib.hid hc
  have HN := Lib.hid hn
  have hm' : n ≤ 9223372036854775807 := by unfold maxLen at hm; omega
  have HM := Lib.hid hm'
  clear ht hc hf hn hm hm'
  by_cases hz : shE l n x = 0
  · obtain ⟨hp, hl, hx, hs⟩ := shT_ok HN.out hz
    have hck : chkE l n x = 0 := by
      by_cases e : chkE l n x = 0
      · exact e
      · rw [(shE_bad e).1] at hz; exact absurd hz e
    obtain ⟨⟨h20, h60⟩, h30, _⟩ := chkE_zero hck
    have HPA := Lib.hid (fun w ht hM => Parse_any (shT l n x) w ht hM)
    have HIS : Hid (∀ w e w', ParseIs (shT l n x) w e w' → Below w.heap.size w w' ∧ ∃ y c, e = .returned (.tuple #[.slice y n c, .int .i64 x, .agg #[.int .i64 0, .int .i64 0]]) ∧ CameA w' y l) := fun w e w' h => by
      obtain ⟨hb, ⟨_, y, c, he, hca⟩ | ⟨h1, _⟩⟩ := h
      · rw [hl, hx, HN.out] at he
        rw [hl] at hca
        exact ⟨hb, y, c, he, hca⟩
      · rw [hp] at h1; cases h1
    have HSZ : Hid (((shT l n x).size : Int) = ((n : Int) + 1) * (x + 1)) := hs
    have hpos : ((n : Int) + 1) * (x + 1) ≤ 31 * 61 := Int.mul_le_mul (by omega) (by omega) (by omega) (by omega)
    have hpos2 : 0 ≤ ((n : Int) + 1) * (x + 1) := Int.mul_nonneg (by omega) (by omega)
    rw [hz] at HP
    clear hp hl hx hs hck hz
    generalize shT l n x = ST at *
    generalize hpr : ((n : Int) + 1) * (x + 1) = pr at *
    go_enter Tryd.func5, Tryd.ntmps5
    go_wp2_with fail
    refine (sheetBegun_any _ HT.out.1).mono ?_
    rintro e w1 ⟨rfl, hb1⟩
    have HB1 := Lib.hid hb1
    have HT1 := Lib.hid (HT.out.below hb1)
    clear hb1
    go_wp2_with fail
    refine (HP.out _ HT1.out.1 (HC.out.below HB1.out)).mono ?_
    rintro e w2 ⟨rfl, hb2⟩
    have HT2 := Lib.hid (HT1.out.below hb2)
    have HB2 := Lib.hid (HB1.out.trans (hb2.mono HB1.out.size))
    clear hb2
    go_wp2_with fail
    refine (HPA.out _ HT2.out.1 HT2.out.2).mono ?_
    intro e w3 h3
    obtain ⟨hb3, y, cy, rfl, hcy⟩ := HIS.out _ _ _ h3
    have HB3 := Lib.hid (HB2.out.trans (hb3.mono HB2.out.size))
    have HCY := Lib.hid hcy
    clear h3 hb3 hcy
    have HBX := Lib.hid (kbelow_box w3 (.cells #[.int .i64 0, .int .i64 0] 30))
    have HSA := Lib.hid (sameAmounts_yes a y n cap cy l _ ((HC.out.below HB3.out).below HBX.out) (HCY.out.below HBX.out) HN.out HM.out)
    have HB4 := Lib.hid (HB3.out.trans (HBX.out.mono HB3.out.size))
    have hSZ := HSZ.out
    go_wp2_with fail
    refine HSA.out.mono ?_
    rintro e w4 ⟨rfl, q, rfl⟩
    have HB5 := Lib.hid (kbelow_dN HB4.out q)
    go_wp2_with fail
    go_ret
    exact ⟨kret_bool (by simp), HB5.out⟩
  · have hB : (shE l n x != 0) = true := by simpa using hz
    clear hz
    generalize shT l n x = ST at *
    generalize shE l n x = SE at *
    go_enter Tryd.func5, Tryd.ntmps5
    go_wp2_with fail
    refine (sheetBegun_any _ HT.out.1).mono ?_
    rintro e w1 ⟨rfl, hb1⟩
    have HB1 := Lib.hid hb1
    have HT1 := Lib.hid (HT.out.below hb1)
    clear hb1
    go_wp2_with fail
    refine (HP.out _ HT1.out.1 (HC.out.below HB1.out)).mono ?_
    rintro e w2 ⟨rfl, hb2⟩
    have HB2 := Lib.hid (HB1.out.trans (hb2.mono HB1.out.size))
    clear hb2
    go_wp2_with fail
    go_ret
    exact ⟨rfl, HB2.out⟩
set_option maxRecDepth 100000 in
set_option maxHeartbeats 4000000 in
theorem walk_sheetParses (s : ByteArray) (_ : s.size ≤ 140737488351232) (a : Option Addr) (n cap : Nat) (l : List Am) (x : Int) (_ : (Lit.int .i64 x).wf = true) (w : World) (hc : CameA w a l) (hf : NamesFit l) (hn : l.length = n) (hm : n ≤ maxLen) (ht : TabM w) :
    Calls Tryd.prog 4 #[.string s, .slice a n cap, .int .i64 x] w fun e w' => e = .returned (.bool true) ∧ Below w.heap.size w w' := by
  have HR := Lib.hid (fun w hc => sheetText_ref a n cap l x w hc hf hn hm)
  have HT := Lib.hid ht
  have HC := Lib.hid hc
  have HN := Lib.hid hn
  clear ht hc hf hm
  have HNO : Hid (psB s = false → shE l n x = 0 → ((shT l n x).toList == s.toList) = false) := fun h1 h2 => by
    rw [eqS]
    refine decide_eq_false fun e => ?_
    have e2 : shT l n x = s := ba_ext (by rw [e])
    have := (shT_ok HN.out h2).1
    rw [e2, h1] at this
    cases this
  have HR2 := Lib.hid (fun y c w hc => sheetText_ref y (rdL s).length c (rdL s) (rdW s) w hc (rdL_fit s) rfl (by have := rdL_len s; unfold maxLen; omega))
  have HOK := Lib.hid (@psB_true s)
  clear hn
  generalize shT l n x = ST at *
  generalize shE l n x = SE at *
  go_enter Tryd.func4, Tryd.ntmps4
  go_wp2_with fail
  refine (Parse_any s w HT.out.1 HT.out.2).mono ?_
  intro e w1 h1
  obtain ⟨hb1, h2⟩ := h1
  have HB1 := Lib.hid hb1
  clear hb1
  rcases h2 with ⟨hp, y, cy, rfl, hcy⟩ | ⟨hp, rfl⟩
  · obtain ⟨q1, q2⟩ := HOK.out hp
    rw [q1, q2] at HR2
    have HCY := Lib.hid hcy
    clear q1 q2 hp hcy
    generalize (rdL s).length = lr at *
    generalize rdW s = xr at *
    have HBX := Lib.hid (kbelow_box w1 (.cells #[.int .i64 0, .int .i64 0] 30))
    have HO := Lib.hid (OB.made w1 (.int .i64 0) (.int .i64 0) 30)
    have HBX1 := Lib.hid (HB1.out.trans (HBX.out.mono HB1.out.size))
    have HSX : Hid ((w1.alloc (.cells #[.int .i64 0, .int .i64 0] 30)).heap.size = w1.heap.size + 1) := by unfold Hid; simp
    go_wp2_with fail
    refine (sheetBegun_any _ (HT.out.below HBX1.out).1).mono ?_
    rintro e w2 ⟨rfl, hb2⟩
    have HB2 := Lib.hid (HBX1.out.trans (hb2.mono HBX1.out.size))
    have HO2 := Lib.hid (HO.out.below hb2 (by rw [HSX.out]; omega))
    have HS2 : Hid (w1.heap.size < w2.heap.size) := by have := hb2.size; rw [HSX.out] at this; unfold Hid; omega
    have HXB := Lib.hid (HBX.out.trans (hb2.mono HBX.out.size))
    clear hb2 HO HBX
    go_wp2_with fail
    refine (HR.out _ (HC.out.below HB2.out)).mono ?_
    rintro e w3 ⟨rfl, hb3⟩
    have HB3 := Lib.hid (HB2.out.trans (hb3.mono HB2.out.size))
    have HO3 := Lib.hid (HO2.out.below hb3 HS2.out)
    have HXB3 := Lib.hid (HXB.out.trans (hb3.mono HXB.out.size))
    have HS3 : Hid (w1.heap.size < w3.heap.size) := by have h1 := HS2.out; have h2 := hb3.size; unfold Hid; omega
    clear hb3 HO2 HXB
    obtain ⟨⟨x0, z0⟩, x1, z1⟩ := HO3.out
    go_wp2_with fail
    refine (HR2.out y cy _ (HCY.out.below HXB3.out)).mono ?_
    rintro e w4 ⟨rfl, hb4⟩
    have HB4 := Lib.hid (HB3.out.trans (hb4.mono HB3.out.size))
    obtain ⟨⟨y0, _⟩, y1, _⟩ := HO3.out.below hb4 HS3.out
    clear hb4 x0 x1 z0 z1
    go_wp2_with fail
    go_ret
    exact ⟨kret_bool (by simp), HB4.out⟩
  · have HNE := Lib.hid (HNO.out hp)
    clear hp
    have HBX := Lib.hid (kbelow_box w1 (.cells #[.int .i64 1, .int .i64 0] 30))
    have HO := Lib.hid (OB.made w1 (.int .i64 1) (.int .i64 0) 30)
    have HBX1 := Lib.hid (HB1.out.trans (HBX.out.mono HB1.out.size))
    have HSX : Hid ((w1.alloc (.cells #[.int .i64 1, .int .i64 0] 30)).heap.size = w1.heap.size + 1) := by unfold Hid; simp
    go_wp2_with fail
    refine (sheetBegun_any _ (HT.out.below HBX1.out).1).mono ?_
    rintro e w2 ⟨rfl, hb2⟩
    have HB2 := Lib.hid (HBX1.out.trans (hb2.mono HBX1.out.size))
    have HO2 := Lib.hid (HO.out.below hb2 (by rw [HSX.out]; omega))
    have HS2 : Hid (w1.heap.size < w2.heap.size) := by have := hb2.size; rw [HSX.out] at this; unfold Hid; omega
    have HXB := Lib.hid (HBX.out.trans (hb2.mono HBX.out.size))
    clear hb2 HO HBX
    go_wp2_with fail
    refine (HR.out _ (HC.out.below HB2.out)).mono ?_
    rintro e w3 ⟨rfl, hb3⟩
    have HB3 := Lib.hid (HB2.out.trans (hb3.mono HB2.out.size))
    have HO3 := Lib.hid (HO2.out.below hb3 HS2.out)
    have HXB3 := Lib.hid (HXB.out.trans (hb3.mono HXB.out.size))
    have HS3 : Hid (w1.heap.size < w3.heap.size) := by have h1 := HS2.out; have h2 := hb3.size; unfold Hid; omega
    clear hb3 HO2 HXB
    obtain ⟨⟨x0, z0⟩, x1, z1⟩ := HO3.out
    by_cases hz : SE = 0
    · subst hz
      have hne := HNE.out rfl
      have hne2 : (ST.toList != s.toList) = true := by simp only [bne, hne]; rfl
      go_wp2_with fail
      go_ret
      exact ⟨kret_bool (by simp), HB3.out⟩
    · have hB : (SE != 0) = true := by simpa using hz
      clear hz
      go_wp2_with fail
      go_ret
      exact ⟨kret_bool (by simp), HB3.out⟩
end Go.Proofs.YtmchanddfodhaaaDoor
