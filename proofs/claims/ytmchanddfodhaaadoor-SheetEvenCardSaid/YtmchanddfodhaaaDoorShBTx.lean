/-
  Promise U3: the walk of the reference's BoxText; the walk of the law SheetBoxes.
-/
import Derived.Test.YtmchanddfodhaaaDoorShLtr
import Derived.Test.YtmchanddfodhaaaDoorLSheetPrints
namespace Go.Proofs.YtmchanddfodhaaaDoor
open Go.RowKit Go.Shelf Mny

theorem boxE_many {l : List ByteArray} {n : Nat} (h : 100 < n) : boxE l n = 2 := by unfold boxE; rw [if_pos h]
theorem boxE_long {l : List ByteArray} {n k : Nat} (h : ¬ 100 < n) (hk : k < n) (h2 : 200 < (snt l k).size) : boxE l n = 3 := by
  unfold boxE
  rw [if_neg h, anyT_yes (P := longT) hk (decide_eq_true h2)]
  rfl
theorem boxE_rest {l : List ByteArray} {n : Nat} (h : ¬ 100 < n) (h2 : ∀ j, j < n → (snt l j).size ≤ 200) : boxE l n = if anyT hidT l n = true then 1 else 0 := by
  unfold boxE
  have : anyT longT l n = false := anyT_no fun j hj => decide_eq_false (by have := h2 j hj; omega)
  rw [if_neg h, this]
  rfl
theorem edge_eq (wd : Nat) : [43, 45, 45] ++ List.replicate wd 45 ++ ((⟨#[43]⟩ : ByteArray).data.toList ++ (⟨#[10]⟩ : ByteArray).data.toList) = edgeL wd := by
  have e : (List.replicate wd 45 ++ [45] : List UInt8) = 45 :: List.replicate wd 45 := by rw [← List.replicate_succ', List.replicate_succ]
  have h1 : edgeL wd = 43 :: 45 :: ((List.replicate wd 45 ++ [45]) ++ [43, 10]) := by simp [edgeL]
  rw [h1, e]
  simp
set_option maxRecDepth 100000 in
set_option maxHeartbeats 8000000 in
theorem boxText_ref (a : Option Addr) (n cap : Nat) (l : List ByteArray) (w : World) (hc : CameT w a l) (hn : l.length = n) (hm : n ≤ maxLen) :
    Calls Tryd.prog 15 #[.slice a n cap] w fun e w' => e = .returned (.tuple #[.string (boxT l n), .int .i64 (boxE l n)]) ∧ Below w.heap.size w w' := by
  have HO := Lib.hid (fun h0 => hc.open hn h0)
  have hm' : n ≤ 9223372036854775807 := by unfold maxLen at hm; omega
  clear hc hn hm
  by_cases h1 : 100 < n
  · have HE := Lib.hid (boxE_many (l := l) h1)
    have HT : Hid (boxT l n = nilT) := boxT_bad (by rw [HE.out]; decide)
    have h1' : (100 : Int) < (n : Int) := by omega
    go_enter Tryd.func15, Tryd.ntmps15
    go_wp2_with fail
    go_ret2
    exact ⟨ret_se HT.out.symm HE.out.symm, Below.refl _ _⟩
  · have h1' : ¬ ((100 : Int) < (n : Int)) := by omega
    have hcf := conv_feed
    go_enter Tryd.func15, Tryd.ntmps15
    go_wp2_with fail
    go_loopw [4, 5, 6] (fun f x i wr => ∃ k : Nat, k ≤ n ∧ f = .bool (anyT hidT l k) ∧ x = .int .i64 (wideK l k : Nat) ∧ i = .int .i64 k ∧ (∀ j, j < k → (snt l j).size ≤ 200) ∧ wr = w) (fun _ _ i _ => n - (intOf i).toNat)
    case atStart => exact ⟨0, Nat.zero_le _, rfl, rfl, rfl, fun j hj => by omega, rfl⟩
    case round =>
      obtain ⟨k, hk, rfl, rfl, rfl, hall, hwr⟩ := hrel
      subst hwr
      have HA := Lib.hid hall
      have hwk := wideK_le hall
      clear hall
      by_cases hlt : k < n
      · have hlt' : (k : Int) < (n : Int) := by omega
        obtain ⟨b, off, rfl, hcell⟩ := HO.out (by omega)
        have x0 := hcell wr (Below.refl _ _) k hlt
        have HEL := Lib.hid (boxE_long (l := l) (k := k) h1 hlt)
        have HAN : Hid (anyT hidT l (k + 1) = (anyT hidT l k || hidK (snt l k) (snt l k).size)) := rfl
        have hmx : max ((wideK l k : Nat) : Int) ((lets (snt l k) : Nat) : Int) = ((wideK l (k + 1) : Nat) : Int) := by rw [wideK]; omega
        have HNX : Hid ((snt l k).size ≤ 200 → ∀ j, j < k + 1 → (snt l j).size ≤ 200) := fun h j hj => by
          by_cases e : j = k
          · subst e; exact h
          · exact HA.out j (by omega)
        have HLK := Lib.hid (shown_len (snt l k)).2
        clear hcell
        generalize snt l k = sk at *
        generalize anyT hidT l k = fk at *
        generalize wideK l k = wk at *
        by_cases hbig : 200 < sk.size
        · have HE := Lib.hid (HEL.out hbig)
          have HT : Hid (boxT l n = nilT) := boxT_bad (by rw [HE.out]; decide)
          have hbI : (200 : Int) < (sk.size : Int) := by omega
          go_wp2_with fail
          go_ret2
          exact ⟨ret_se HT.out.symm HE.out.symm, Below.refl _ _⟩
        · have hbI : ¬ ((200 : Int) < (sk.size : Int)) := by omega
          have hs200 : sk.size ≤ 200 := by omega
          have HNX2 := Lib.hid (HNX.out hs200)
          have HSR := Lib.hid (fun w => shown_ref sk w hs200)
          clear HEL HNX
          go_wp2_with fail
          go_loopw [4, 7] (fun f i wq => ∃ q : Nat, q ≤ sk.size ∧ f = .bool (fk || hidK sk q) ∧ i = .int .i64 (q : Int) ∧ wq = wr) (fun _ i _ => sk.size - (intOf i).toNat)
          case atStart => exact ⟨0, Nat.zero_le _, by rw [hidK, Bool.or_false], rfl, rfl⟩
          case round =>
            obtain ⟨q, hq, rfl, rfl, hwq⟩ := hrel
            subst hwq
            by_cases hql : q < sk.size
            · have hqI : (q : Int) < (sk.size : Int) := by omega
              have hq0 : (0 : Int) ≤ (q : Int) := by omega
              have hb := bt_in hql
              have HHK : Hid (hidK sk (q + 1) = (hidK sk q || hidB (bt sk q))) := rfl
              obtain ⟨c, hc⟩ : ∃ c, bt sk q = c := ⟨_, rfl⟩
              rw [hc] at HHK
              have hgc : (sk[q].toNat : Int) = c := by rw [← hb, hc]
              clear hb hc
              generalize hidK sk q = hk2 at *
              have HFN : Hid ((fk || hidK sk (q + 1)) = ((fk || hk2) || hidB c)) := by unfold Hid; rw [HHK.out, Bool.or_assoc]
              generalize (fk || hk2) = fo at *
              cases fo
              · by_cases t1 : c < 32
                · have HF2 : Hid ((fk || hidK sk (q + 1)) = true) := by unfold Hid; rw [HFN.out, show hidB c = true from decide_eq_true (.inl t1)]; rfl
                  go_wp2_with fail
                  go_roundw
                  case rel => exact ⟨q + 1, by omega, by rw [HF2.out], by go_num, by first | trivial | rfl⟩
                  case measure => simp [intOf]; omega
                · by_cases t2 : c = 127
                  · have HF2 : Hid ((fk || hidK sk (q + 1)) = true) := by unfold Hid; rw [HFN.out, show hidB c = true from decide_eq_true (.inr t2)]; rfl
                    have t3 : (c == 127) = true := by rw [t2]; rfl
                    have HT2 := Lib.hid t2
                    clear t2
                    go_wp2_with fail
                    go_roundw
                    case rel => exact ⟨q + 1, by omega, by rw [HF2.out], by go_num, by first | trivial | rfl⟩
                    case measure => simp [intOf]; omega
                  · have HF2 : Hid ((fk || hidK sk (q + 1)) = false) := by unfold Hid; rw [HFN.out, show hidB c = false from decide_eq_false (by omega)]; rfl
                    have t3 : (c == 127) = false := by rw [beq_eq_false_iff_ne]; exact t2
                    go_wp2_with fail
                    go_roundw
                    case rel => exact ⟨q + 1, by omega, by rw [HF2.out], by go_num, by first | trivial | rfl⟩
                    case measure => simp [intOf]; omega
              · have HF2 : Hid ((fk || hidK sk (q + 1)) = true) := by unfold Hid; rw [HFN.out]; rfl
                go_wp2_with fail
                go_roundw
                case rel => exact ⟨q + 1, by omega, by rw [HF2.out], by go_num, by first | trivial | rfl⟩
                case measure => simp [intOf]; omega
            · have hqe : q = sk.size := by omega
              have HFE : Hid ((fk || hidK sk q) = anyT hidT l (k + 1)) := by unfold Hid; rw [hqe, HAN.out]
              have hqI : ¬ ((q : Int) < (sk.size : Int)) := by omega
              clear hqe
              rw [HFE.out]
              go_wp2_with fail
              refine (HSR.out _).mono ?_
              rintro e w1 ⟨rfl, h'⟩
              subst w1
              go_wp2_with fail
              go_roundw
              case rel => exact ⟨k + 1, by omega, rfl, by first | rfl | (rw [hmx]) | (rw [← hmx]), by go_num, HNX2.out, by first | trivial | rfl⟩
              case measure => simp [intOf]; omega
      · obtain rfl : n = k := by omega
        have HER := Lib.hid (boxE_rest h1 HA.out)
        cases hfo : anyT hidT l n
        · rw [hfo] at HER
          have HZ : Hid (boxE l n = 0) := HER.out
          have HT := Lib.hid (boxT_ok HZ.out)
          have HWM := Lib.hid (fun k hk => @wideK_mono l n k hk)
          have HRL : Hid (∀ k, k ≤ n → (rowsL l (wideK l n) k).length ≤ k * 405) := fun k hk => rowsL_len (fun j hj => ⟨HA.out j (by omega), HWM.out j (by omega)⟩) hwk
          have HBL : Hid (boxL l n = edgeL (wideK l n) ++ rowsL l (wideK l n) n ++ edgeL (wideK l n)) := rfl
          have HBX := Lib.hid (kbelow_box wr (.cells #[.int .u8 10] 5))
          have HSZB : Hid ((wr.alloc (.cells #[.int .u8 10] 5)).heap.size = wr.heap.size + 1) := by unfold Hid; simp
          generalize wideK l n = wd at *
          clear hfo
          go_wp2_with fail
          generalize wr.alloc (.cells #[.int .u8 10] 5) = w2 at *
          go_loopw [11, 12] (fun t i wq => ∃ q : Nat, q ≤ wd ∧ t = .string (txtOf ([43, 45, 45] ++ List.replicate q 45)) ∧ i = .int .i64 (q : Int) ∧ w2 = wq) (fun _ i _ => wd - (intOf i).toNat)
          case atStart => exact ⟨0, Nat.zero_le _, rfl, rfl, rfl⟩
          case round =>
            obtain ⟨q, hq, rfl, rfl, hwq⟩ := hrel
            subst hwq
            have HTL := Lib.hid (txtOf_list ([43, 45, 45] ++ List.replicate q 45))
            have HTZ : Hid ((txtOf ([43, 45, 45] ++ List.replicate q 45)).size = q + 3) := by unfold Hid; rw [size_toList, HTL.out]; simp
            by_cases hqw : q < wd
            · have hqI : (q : Int) < (wd : Int) := by omega
              have hj : (txtOf ([43, 45, 45] ++ List.replicate q 45)).size + (⟨#[45]⟩ : ByteArray).size ≤ 9223372036854775807 := by rw [HTZ.out]; show q + 3 + 1 ≤ _; omega
              have HNT : Hid (txtOf ([43, 45, 45] ++ List.replicate q 45) ++ (⟨#[45]⟩ : ByteArray) = txtOf ([43, 45, 45] ++ List.replicate (q + 1) 45)) := by
                refine txtOf_eq ?_
                rw [ba_append, HTL.out, List.replicate_succ']
                simp
              generalize txtOf ([43, 45, 45] ++ List.replicate q 45) = tq at *
              go_wp2_with fail
              go_roundw
              case rel => exact ⟨q + 1, by omega, congrArg Value.string HNT.out, by go_num, by first | trivial | rfl⟩
              case measure => simp [intOf]; omega
            · have hqe : q = wd := by omega
              have hqI : ¬ ((q : Int) < (wd : Int)) := by omega
              have hj1 : (⟨#[43]⟩ : ByteArray).size + (⟨#[10]⟩ : ByteArray).size ≤ 9223372036854775807 := by decide
              have hj2 : (txtOf ([43, 45, 45] ++ List.replicate q 45)).size + ((⟨#[43]⟩ : ByteArray) ++ (⟨#[10]⟩ : ByteArray)).size ≤ 9223372036854775807 := by rw [HTZ.out, ByteArray.size_append]; show q + 3 + (1 + 1) ≤ _; omega
              have HED : Hid (txtOf ([43, 45, 45] ++ List.replicate q 45) ++ ((⟨#[43]⟩ : ByteArray) ++ (⟨#[10]⟩ : ByteArray)) = txtOf (edgeL wd)) := by
                refine txtOf_eq ?_
                rw [ba_append, ba_append, HTL.out, hqe]
                exact edge_eq wd
              clear hqe
              generalize txtOf ([43, 45, 45] ++ List.replicate q 45) = tq at *
              go_wp2_with fail
              rw [HED.out]
              have HDL := Lib.hid (txtOf_list (edgeL wd))
              have HDZ : Hid ((txtOf (edgeL wd)).size = wd + 5) := by unfold Hid; rw [size_toList, HDL.out, edgeL_len]
              clear HED hj1 hj2 HTL HTZ
              generalize txtOf (edgeL wd) = ed at *
              go_loopw [13, 14] (fun t i wq => ∃ k : Nat, k ≤ n ∧ t = .string (txtOf (edgeL wd ++ rowsL l wd k)) ∧ i = .int .i64 (k : Int) ∧ w2 = wq) (fun _ i _ => n - (intOf i).toNat)
              case atStart =>
                refine ⟨0, Nat.zero_le _, congrArg Value.string (ba_ext ?_), rfl, rfl⟩
                rw [HDL.out, txtOf_list, rowsL, List.append_nil]
              case round =>
                obtain ⟨k, hk, rfl, rfl, hwq⟩ := hrel
                subst hwq
                have HTL := Lib.hid (txtOf_list (edgeL wd ++ rowsL l wd k))
                have htz : (txtOf (edgeL wd ++ rowsL l wd k)).size ≤ 40705 := by
                  have h1 := HRL.out k hk
                  rw [size_toList, HTL.out, List.length_append, edgeL_len]
                  omega
                have HTZ := Lib.hid htz
                clear htz
                by_cases hlt : k < n
                · have hlt' : (k : Int) < (n : Int) := by omega
                  obtain ⟨b, off, rfl, hcell⟩ := HO.out (by omega)
                  have x0 := hcell w2 HBX.out k hlt
                  have hs200 := HA.out k hlt
                  have hwk2 := HWM.out k hlt
                  have HRN : Hid (rowsL l wd (k + 1) = rowsL l wd k ++ rowL (snt l k) wd) := rfl
                  have HRW : Hid (rowL (snt l k) wd = [124, 32] ++ shownL (snt l k) ++ List.replicate (wd - lets (snt l k)) 32 ++ [32, 124, 10]) := rfl
                  clear hcell
                  generalize snt l k = sk at *
                  have HSR := Lib.hid (fun w => shown_ref sk w hs200)
                  have HSL := Lib.hid (shown_len sk).1
                  generalize hlet : lets sk = lt at *
                  have HLT := Lib.hid hlet
                  clear hlet
                  have HTX : Hid (txtOf (edgeL wd ++ rowsL l wd k) ++ (txtOf (rowL sk wd)) = txtOf (edgeL wd ++ rowsL l wd (k + 1))) := by
                    refine txtOf_eq ?_
                    rw [ba_append, HTL.out, txtOf_list, HRN.out, List.append_assoc]
                  generalize txtOf (edgeL wd ++ rowsL l wd k) = tk at *
                  go_wp2_with fail
                  refine (HSR.out _).mono ?_
                  rintro e w1 ⟨rfl, h'⟩
                  subst w1
                  go_wp2_with fail
                  go_loopw [15, 16] (fun t i wz => ∃ r : Nat, lt + r ≤ wd ∧ t = .string (txtOf (shownL sk ++ List.replicate r 32)) ∧ i = .int .i64 ((lt : Int) + (r : Int)) ∧ w2 = wz) (fun _ i _ => wd - (intOf i).toNat)
                  case atStart =>
                    refine ⟨0, by omega, congrArg Value.string (txtOf_eq ?_), by simp, rfl⟩
                    rw [shownT_list]
                    simp
                  case round =>
                    obtain ⟨r, hr, rfl, rfl, hwz⟩ := hrel
                    subst hwz
                    have HRL2 := Lib.hid (txtOf_list (shownL sk ++ List.replicate r 32))
                    have hrz : (txtOf (shownL sk ++ List.replicate r 32)).size ≤ 400 := by
                      rw [size_toList, HRL2.out, List.length_append, HSL.out, List.length_replicate]
                      omega
                    have HRZ := Lib.hid hrz
                    clear hrz
                    by_cases hrw : lt + r < wd
                    · have hrI : (lt : Int) + (r : Int) < (wd : Int) := by omega
                      have hj : (txtOf (shownL sk ++ List.replicate r 32)).size + (⟨#[32]⟩ : ByteArray).size ≤ 9223372036854775807 := by have := HRZ.out; show _ + 1 ≤ _; omega
                      have HNT : Hid (txtOf (shownL sk ++ List.replicate r 32) ++ (⟨#[32]⟩ : ByteArray) = txtOf (shownL sk ++ List.replicate (r + 1) 32)) := by
                        refine txtOf_eq ?_
                        rw [ba_append, HRL2.out, List.replicate_succ']
                        simp
                      generalize txtOf (shownL sk ++ List.replicate r 32) = tr at *
                      go_wp2_with fail
                      go_roundw
                      case rel => exact ⟨r + 1, by omega, congrArg Value.string HNT.out, by go_num, by first | trivial | rfl⟩
                      case measure => simp [intOf]; omega
                    · have hre : wd - lt = r := by omega
                      have hrI : ¬ ((lt : Int) + (r : Int) < (wd : Int)) := by omega
                      rw [hre] at HRW
                      clear hre
                      have HRO : Hid ((⟨#[124, 32]⟩ : ByteArray) ++ txtOf (shownL sk ++ List.replicate r 32) ++ (⟨#[32, 124]⟩ : ByteArray) ++ (⟨#[10]⟩ : ByteArray) = txtOf (rowL sk wd)) := by
                        refine txtOf_eq ?_
                        rw [ba_append, ba_append, ba_append, HRL2.out, HRW.out]
                        simp
                      have hz1 := HRZ.out
                      have hz2 := HTZ.out
                      have hj1 : (⟨#[124, 32]⟩ : ByteArray).size + (txtOf (shownL sk ++ List.replicate r 32)).size ≤ 9223372036854775807 := by show 2 + _ ≤ _; omega
                      have hj2 : ((⟨#[124, 32]⟩ : ByteArray) ++ txtOf (shownL sk ++ List.replicate r 32)).size + (⟨#[32, 124]⟩ : ByteArray).size ≤ 9223372036854775807 := by rw [ByteArray.size_append]; show 2 + _ + 2 ≤ _; omega
                      have hj3 : ((⟨#[124, 32]⟩ : ByteArray) ++ txtOf (shownL sk ++ List.replicate r 32) ++ (⟨#[32, 124]⟩ : ByteArray)).size + (⟨#[10]⟩ : ByteArray).size ≤ 9223372036854775807 := by rw [ByteArray.size_append, ByteArray.size_append]; show 2 + _ + 2 + 1 ≤ _; omega
                      have hj4 : tk.size + ((⟨#[124, 32]⟩ : ByteArray) ++ txtOf (shownL sk ++ List.replicate r 32) ++ (⟨#[32, 124]⟩ : ByteArray) ++ (⟨#[10]⟩ : ByteArray)).size ≤ 9223372036854775807 := by rw [ByteArray.size_append, ByteArray.size_append, ByteArray.size_append]; show tk.size + (2 + _ + 2 + 1) ≤ _; omega
                      have HFIN : Hid (tk ++ ((⟨#[124, 32]⟩ : ByteArray) ++ txtOf (shownL sk ++ List.replicate r 32) ++ (⟨#[32, 124]⟩ : ByteArray) ++ (⟨#[10]⟩ : ByteArray)) = txtOf (edgeL wd ++ rowsL l wd (k + 1))) := by unfold Hid; rw [HRO.out, HTX.out]
                      clear hz1 hz2 HRO HTX
                      generalize txtOf (shownL sk ++ List.replicate r 32) = tr at *
                      go_wp2_with fail
                      go_roundw
                      case rel => exact ⟨k + 1, by omega, congrArg Value.string HFIN.out, by go_num, by first | trivial | rfl⟩
                      case measure => simp [intOf]; omega
                · obtain rfl : n = k := by omega
                  have hj : (txtOf (edgeL wd ++ rowsL l wd n)).size + ed.size ≤ 9223372036854775807 := by have h1 := HTZ.out; have h2 := HDZ.out; omega
                  have HFIN : Hid (txtOf (edgeL wd ++ rowsL l wd n) ++ ed = boxT l n) := by
                    unfold Hid
                    rw [HT.out]
                    refine ba_ext ?_
                    rw [ba_append, HTL.out, HDL.out, HBL.out]
                  have hlt' : ¬ ((n : Int) < (n : Int)) := by omega
                  generalize txtOf (edgeL wd ++ rowsL l wd n) = tn at *
                  go_wp2_with fail
                  go_ret2
                  exact ⟨ret_se HFIN.out HZ.out.symm, HBX.out⟩
        · rw [hfo] at HER
          have HE : Hid (boxE l n = 1) := HER.out
          have HT : Hid (boxT l n = nilT) := boxT_bad (by rw [HE.out]; decide)
          clear hfo
          go_wp2_with fail
          go_ret2
          exact ⟨ret_se HT.out.symm HE.out.symm, Below.refl _ _⟩
set_option maxRecDepth 100000 in
set_option maxHeartbeats 1000000 in
theorem walk_sheetBoxes (a : Option Addr) (n cap : Nat) (l : List ByteArray) (w : World) (hc : CameT w a l) (hf : TextsFit l) (hn : l.length = n) (hm : n ≤ maxLen) (ht : Tab w) :
    Calls Tryd.prog 6 #[.slice a n cap] w fun e w' => e = .returned (.bool true) ∧ Below w.heap.size w w' := by
  have HP := Lib.hid (Box_any a n cap l w hc hf hn hm)
  have HR := Lib.hid (fun w hc => boxText_ref a n cap l w hc hn hm)
  have HT := Lib.hid ht
  have HC := Lib.hid hc
  have HX : Hid (boxE l n ≠ 0 → boxT l n = ⟨#[]⟩) := fun h => boxT_bad h
  clear ht hc hf hn hm
  generalize boxT l n = ST at *
  generalize boxE l n = SE at *
  go_enter Tryd.func6, Tryd.ntmps6
  go_wp2_with fail
  refine HP.out.mono ?_
  rintro e w1 ⟨rfl, hb1⟩
  have HB1 := Lib.hid hb1
  clear hb1
  go_wp2_with fail
  refine (HR.out _ (HC.out.below HB1.out)).mono ?_
  rintro e w2 ⟨rfl, hb2⟩
  have HB2 := Lib.hid (HB1.out.trans (hb2.mono HB1.out.size))
  clear hb2
  go_wp2_with fail
  refine (sheetBegun_any _ (HT.out.below HB2.out)).mono ?_
  rintro e w3 ⟨rfl, hb3⟩
  have HB3 := Lib.hid (HB2.out.trans (hb3.mono HB2.out.size))
  clear hb3
  go_wp2_with fail
  refine (textIs_same ST SE _ HX.out).mono ?_
  rintro e w' ⟨rfl, h'⟩
  subst w'
  go_wp2_with fail
  go_ret
  exact ⟨rfl, HB3.out⟩
end Go.Proofs.YtmchanddfodhaaaDoor
