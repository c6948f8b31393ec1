/-
  The walk of the law SheetEven: it answers true at every list of lines.
-/
import Derived.Test.YtmchanddfodhaaaDoorShEvn
import Derived.Lib.ConvBytes
namespace Go.Proofs.YtmchanddfodhaaaDoor
open Go.RowKit Go.Shelf Mny

theorem drop_at {l : List UInt8} {i : Nat} (h : i < l.length) : l.drop i = l[i] :: l.drop (i + 1) := by simp
set_option maxRecDepth 100000 in
set_option maxHeartbeats 4000000 in
theorem walk_sheetEven (a : Option Addr) (n cap : Nat) (l : List ByteArray) (w : World) (hc : CameT w a l) (hf : TextsFit l) (hn : l.length = n) (hm : n ≤ maxLen) (ht : Tab w) :
    Calls Tryd.prog 7 #[.slice a n cap] w fun e w' => e = .returned (.bool true) ∧ Below w.heap.size w w' := by
  have HP := Lib.hid (fun w hc => Box_any a n cap l w hc hf hn hm)
  have HT := Lib.hid ht
  have HC := Lib.hid hc
  clear ht hc hf hn hm
  by_cases hz : boxE l n = 0
  · have HBT := boxT_ok hz
    have hev := box_even hz
    obtain ⟨h100, hsz, hhid⟩ := boxE_zero hz
    have hlen : (boxL l n).length ≤ 41000 := by
      have h1 := wideK_le hsz
      have h2 := rowsL_len (l := l) (wd := wideK l n) (k := n) (fun j hj => ⟨hsz j hj, wideK_mono hj⟩) h1
      unfold boxL
      rw [List.length_append, List.length_append, edgeL_len]
      omega
    rw [hz] at HP
    have HBL : Hid ((boxT l n).data.toList = boxL l n) := by unfold Hid; rw [HBT]
    have HEV := Lib.hid hev
    have HSZ : Hid ((boxT l n).size = (boxL l n).length) := by unfold Hid; rw [size_toList, HBL.out]
    clear hev HBT hhid hsz hz
    generalize boxL l n = bl at *
    generalize boxT l n = bt' at *
    have hsz2 : bt'.size ≤ 41000 := by rw [HSZ.out]; exact hlen
    have hcv : ∀ w : World, (convert 9 38 (.string bt')).run Tryd.prog w = .ok (.slice (some ⟨w.heap.size, 0, none⟩) bt'.size (grownCap w bt'.size 0 5)) (Lib.bytesWorld w 5 bt') := fun w => Lib.run_convert_string_bytes w 9 38 5 bt' Tryd.underlying9 Tryd.underlying38 Tryd.underlying5
    go_enter Tryd.func7, Tryd.ntmps7
    go_wp2_with fail
    refine (sheetBegun_any _ HT.out).mono ?_
    rintro e w1 ⟨rfl, hb1⟩
    have HB1 := Lib.hid hb1
    clear hb1
    go_wp2_with fail
    refine (HP.out _ (HC.out.below HB1.out)).mono ?_
    rintro e w2 ⟨rfl, hb2⟩
    have HB2 := Lib.hid (HB1.out.trans (hb2.mono HB1.out.size))
    clear hb2
    have HCE := Lib.hid (Lib.bytesWorld_cell w2 5 bt')
    have HBW : Hid (Below w2.heap.size w2 (Lib.bytesWorld w2 5 bt')) := ⟨rfl, rfl, rfl, by rw [Lib.bytesWorld_size]; omega, fun j hj => Lib.bytesWorld_at_old w2 5 bt' j hj⟩
    have HB3 := Lib.hid (HB2.out.trans (HBW.out.mono HB2.out.size))
    go_wp2_with fail
    generalize grownCap w2 bt'.size 0 5 = gc at *
    generalize Lib.bytesWorld w2 5 bt' = w3 at *
    generalize w2.heap.size = g at *
    clear hcv
    go_loopw [5, 6, 7, 9] (fun f m k i wr => ∃ (f' : Int) (m' k' i' : Nat), f = .int .i64 f' ∧ m = .int .i64 (m' : Int) ∧ k = .int .i64 (k' : Int) ∧ i = .int .i64 (i' : Int) ∧ i' ≤ bt'.size ∧ m' ≤ i' ∧ k' ≤ i' ∧ -1 ≤ f' ∧ f' ≤ (i' : Int) ∧ sc (n + 2) (bl.drop i') f' m' k' = true ∧ w3 = wr) (fun _ _ _ i _ => bt'.size - (intOf i).toNat)
    case atStart => exact ⟨-1, 0, 0, 0, rfl, rfl, rfl, rfl, Nat.zero_le _, Nat.le_refl _, Nat.le_refl _, by omega, by omega, HEV.out, rfl⟩
    case round =>
      obtain ⟨f, m, k, i, rfl, rfl, rfl, rfl, hi, hmi, hki, hf0, hf1, hsc, hwr⟩ := hrel
      subst hwr
      by_cases hlt : i < bt'.size
      · have hltI : (i : Int) < (bt'.size : Int) := by omega
        have hib : i < bl.length := by rw [← HSZ.out]; exact hlt
        have x0 := HCE.out i hlt
        have hge : bt'.data.toList.getD i 0 = bl[i] := by rw [HBL.out, List.getD_eq_getElem?_getD, List.getElem?_eq_getElem hib]; rfl
        rw [hge] at x0
        rw [drop_at hib, sc] at hsc
        have HSC := Lib.hid hsc
        clear hsc hge
        generalize bl[i] = c at *
        have hcl : c.toNat < 256 := c.toNat_lt
        by_cases h10 : c = 10
        · subst h10
          have HS2 := HSC.out
          rw [if_pos rfl] at HS2
          by_cases hbad : 0 ≤ f ∧ (k : Int) ≠ f
          · rw [if_pos hbad] at HS2; cases HS2
          · rw [if_neg hbad] at HS2
            have HS3 := Lib.hid HS2
            clear HS2 HSC
            have x1 : w3.cell? ⟨g, i, none⟩ = some (.int .u8 10) := x0
            clear x0
            by_cases hf : 0 ≤ f
            · have hkf : (k : Int) = f := by omega
              have hne : ((k : Int) != f) = false := by rw [hkf]; simp
              have HKF := Lib.hid hkf
              clear hkf hbad
              go_wp2_with fail
              go_roundw
              case rel => exact ⟨(k : Int), m + 1, 0, i + 1, rfl, by go_num, rfl, by go_num, by omega, by omega, by omega, by omega, by omega, HS3.out, by first | trivial | rfl⟩
              case measure => simp [intOf]; omega
            · go_wp2_with fail
              go_roundw
              case rel => exact ⟨(k : Int), m + 1, 0, i + 1, rfl, by go_num, rfl, by go_num, by omega, by omega, by omega, by omega, by omega, HS3.out, by first | trivial | rfl⟩
              case measure => simp [intOf]; omega
        · have HS2 := HSC.out
          rw [if_neg h10] at HS2
          have hcI : ((c.toNat : Int) == 10) = false := by
            rw [beq_eq_false_iff_ne]
            intro q
            exact h10 (UInt8.toNat_inj.1 (by show c.toNat = 10; omega))
          have HLB : Hid (leadB c = (decide (c.toNat < 128) || decide (192 ≤ c.toNat))) := rfl
          have HS3 := Lib.hid HS2
          clear HS2 HSC
          obtain ⟨d, hd⟩ : ∃ d : Nat, c.toNat = d := ⟨_, rfl⟩
          rw [hd] at x0 hcI HLB hcl
          clear hd h10
          by_cases t1 : d < 128
          · have t1I : (d : Int) < 128 := by omega
            have HL2 : Hid (leadB c = true) := by unfold Hid; rw [HLB.out, decide_eq_true t1]; rfl
            have HS4 := HS3.out
            rw [if_pos HL2.out] at HS4
            have HS5 := Lib.hid HS4
            clear HS4
            go_wp2_with fail
            go_roundw
            case rel => exact ⟨f, m, k + 1, i + 1, rfl, rfl, by go_num, by go_num, by omega, by omega, by omega, by omega, by omega, HS5.out, by first | trivial | rfl⟩
            case measure => simp [intOf]; omega
          · have t1I : ¬ ((d : Int) < 128) := by omega
            by_cases t2 : 192 ≤ d
            · have t2I : (192 : Int) ≤ (d : Int) := by omega
              have HL2 : Hid (leadB c = true) := by unfold Hid; rw [HLB.out, decide_eq_true t2, Bool.or_true]
              have HS4 := HS3.out
              rw [if_pos HL2.out] at HS4
              have HS5 := Lib.hid HS4
              clear HS4
              go_wp2_with fail
              go_roundw
              case rel => exact ⟨f, m, k + 1, i + 1, rfl, rfl, by go_num, by go_num, by omega, by omega, by omega, by omega, by omega, HS5.out, by first | trivial | rfl⟩
              case measure => simp [intOf]; omega
            · have t2I : ¬ ((192 : Int) ≤ (d : Int)) := by omega
              have HL2 : Hid (leadB c = false) := by unfold Hid; rw [HLB.out, decide_eq_false t1, decide_eq_false t2]; rfl
              have HS4 := HS3.out
              rw [HL2.out] at HS4
              have HS5 : Hid (sc (n + 2) (bl.drop (i + 1)) f m k = true) := HS4
              clear HS4
              go_wp2_with fail
              go_roundw
              case rel => exact ⟨f, m, k, i + 1, rfl, rfl, rfl, by go_num, by omega, by omega, by omega, by omega, by omega, HS5.out, by first | trivial | rfl⟩
              case measure => simp [intOf]; omega
      · have hltI : ¬ ((i : Int) < (bt'.size : Int)) := by omega
        have hdr : bl.drop i = [] := List.drop_eq_nil_of_le (by rw [← HSZ.out]; omega)
        rw [hdr, sc, Bool.and_eq_true, decide_eq_true_iff, decide_eq_true_iff] at hsc
        obtain ⟨rfl, rfl⟩ := hsc
        go_wp2_with fail
        go_ret
        exact ⟨kret_bool (by simp), HB3.out⟩
  · have hB : (boxE l n != 0) = true := by simpa using hz
    have HBT := Lib.hid (boxT_bad hz)
    rw [HBT.out, show nilT = ⟨#[]⟩ from rfl] at HP
    clear hz
    generalize boxE l n = be at *
    go_enter Tryd.func7, Tryd.ntmps7
    go_wp2_with fail
    refine (sheetBegun_any _ HT.out).mono ?_
    rintro e w1 ⟨rfl, hb1⟩
    have HB1 := Lib.hid hb1
    clear hb1
    go_wp2_with fail
    refine (HP.out _ (HC.out.below HB1.out)).mono ?_
    rintro e w2 ⟨rfl, hb2⟩
    have HB2 := Lib.hid (HB1.out.trans (hb2.mono HB1.out.size))
    clear hb2
    go_wp2_with fail
    go_ret
    exact ⟨kret_bool (by first | rfl | simp), HB2.out⟩
end Go.Proofs.YtmchanddfodhaaaDoor
