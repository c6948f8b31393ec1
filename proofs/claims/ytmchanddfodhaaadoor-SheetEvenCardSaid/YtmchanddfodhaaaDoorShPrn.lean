/-
  Promise U1: the walk of Print.
-/
import Derived.Test.YtmchanddfodhaaaDoorShGrow
import Derived.Test.YtmchanddfodhaaaDoorMBack
namespace Go.Proofs.YtmchanddfodhaaaDoor
open Go.RowKit Mny

theorem print_t (n : Int) (w : World) (h : monB n = true) (ht : Tab w) :
    Calls Tryd.prog 19 #[.int .i64 n] w fun e w' => e = .returned (.tuple #[.string ⟨(printL n).toArray⟩, .int .i64 0]) ∧ Below w.heap.size w w' := by
  refine (print_ok n w h ht).mono ?_
  rintro e w' ⟨s, rfl, hs, hb⟩
  refine ⟨?_, hb⟩
  have : s = ⟨(printL n).toArray⟩ := ba_ext (by simpa using hs)
  rw [this]
def dotT (r : Nat) : ByteArray := ⟨(List.replicate r 46).toArray⟩
theorem dotT_list (r : Nat) : (dotT r).data.toList = List.replicate r 46 := by simp [dotT]
theorem dotT_size (r : Nat) : (dotT r).size = r := by rw [size_toList, dotT_list, List.length_replicate]
theorem dots_any (r : Nat) (w : World) (hr : r ≤ 60) : Calls Tryd.prog 21 #[.string ⟨#[46]⟩, .int .i64 (r : Int)] w fun e w' => e = .returned (.string (dotT r)) ∧ Below w.heap.size w w' := by
  refine (sh_strings_Repeat ⟨#[46]⟩ r w (by omega) (by show 1 * r ≤ _; omega)).mono ?_
  rintro e w' ⟨rfl, hb⟩
  refine ⟨?_, hb⟩
  rw [show Lib.repeatL (⟨#[46]⟩ : ByteArray).data.toList r = List.replicate r 46 from repeatL_one 46 r]
  rfl
theorem ret_se {s t : ByteArray} {a b : Int} (h : s = t) (k : a = b) : Ending.returned (.tuple #[.string s, .int .i64 a]) = .returned (.tuple #[.string t, .int .i64 b]) := by rw [h, k]
theorem namB_size {s : ByteArray} (h : namB s = true) : s.size ≤ 8 := (of_decide_eq_true h : NameP s).2.1
set_option maxRecDepth 100000 in
set_option maxHeartbeats 4000000 in
theorem Print_any (a : Option Addr) (n cap : Nat) (l : List Am) (x : Int) (w : World) (ht : Tab w) (hc : CameA w a l) (hf : NamesFit l) (hn : l.length = n) (hm : n ≤ 9223372036854775807) :
    Calls Tryd.prog 8 #[.slice a n cap, .int .i64 x] w fun e w' => e = .returned (.tuple #[.string (shT l n x), .int .i64 (shE l n x)]) ∧ Below w.heap.size w w' := by
  have HCK := Lib.hid (check_any a n cap l x w hc hf hn hm)
  have HT := Lib.hid ht
  have HC := Lib.hid hc
  have HN := Lib.hid hn
  clear ht hc hf hn
  by_cases hz : chkE l n x = 0
  · obtain ⟨⟨h20, h60⟩, h30, hall, _, hsm⟩ := chkE_zero hz
    have HM : Hid (∀ j, j < n → monB (anth l j).mon = true) := fun j hj => (wrA_zero (hall j hj)).2.2
    have HW : Hid (∀ j, j < n + 1 → monB (anth (withSum l n) j).mon = true ∧ (anth (withSum l n) j).name.size ≤ 8) := fun j hj => by
      by_cases e : j < n
      · rw [withSum_at (by rw [HN.out]; exact e)]
        exact ⟨HM.out j e, namB_size (wrA_zero (hall j e)).1⟩
      · obtain rfl : j = n := by omega
        rw [withSum_end HN.out]
        exact ⟨hsm, by show (3 : Nat) ≤ 8; omega⟩
    have HCL := Lib.hid (fun w hc => clone_any a n cap l w hc HN.out (by omega))
    have HSU := Lib.hid (fun w hc => sum_any a n cap l w hc HN.out (by omega) HM.out)
    have HSL := Lib.hid (withSum_len l n)
    have HWS : Hid (withSum l n = l ++ [⟨sumT, sumA l n⟩]) := rfl
    have HZ := Lib.hid hz
    have HLONG : Hid (∀ k, k < n + 1 → fitA (anth (withSum l n) k) x = false → shE l n x = 2 ∧ shT l n x = nilT) := fun k hk h => shE_long HZ.out (fits_not hk h)
    have HOK : Hid ((∀ j, j < n + 1 → fitA (anth (withSum l n) j) x = true) → shE l n x = 0 ∧ shT l n x = ⟨(linesL (withSum l n) x (n + 1)).toArray⟩) := fun h => shE_ok HZ.out (fits_of h)
    rw [hz] at HCK
    rw [HN.out] at HSL
    clear hz hall
    go_enter Tryd.func8, Tryd.ntmps8
    go_wp2_with fail
    refine HCK.out.mono ?_
    rintro e w1 ⟨rfl, hb1⟩
    have HB1 := Lib.hid hb1
    have HBL1 := Lib.hid (Bld.fresh w1)
    have HB2 := Lib.hid (kbelow_box w1 (.cells #[.pointer none, .slice none 0 0] 42))
    clear hb1
    go_wp2_with fail
    refine (HCL.out _ ((HC.out.below HB1.out).below HB2.out)).mono ?_
    rintro e w2 ⟨v2, rfl, hg2, hb2⟩
    have HG2 := Lib.hid hg2
    have HBL2 := Lib.hid (HBL1.out.below hb2)
    have HB3 := Lib.hid (HB2.out.trans (hb2.mono HB2.out.size))
    have HBS : Hid ((w1.alloc (.cells #[.pointer none, .slice none 0 0] 42)).heap.size = w1.heap.size + 1) := by unfold Hid; simp
    rw [HBS.out] at HG2
    clear hb2 hg2 HBL1
    go_wp2_with fail
    refine (HSU.out _ ((HC.out.below HB1.out).below HB3.out)).mono ?_
    rintro e w3 ⟨rfl, hb3⟩
    have HG3 := Lib.hid (HG2.out.below hb3)
    have HBL3 := Lib.hid (HBL2.out.below hb3)
    have HB4 := Lib.hid (HB3.out.trans (hb3.mono HB3.out.size))
    generalize sumA l n = tot at *
    have HBX := Lib.hid (kbelow_box w3 (.cells #[.string sumT, .int .i64 tot] 45))
    have HG4 := Lib.hid (HG3.out.below HBX.out)
    have HBL4 := Lib.hid (HBL3.out.below HBX.out)
    have HB5 := Lib.hid (HB4.out.trans (HBX.out.mono HB4.out.size))
    have HAT : Hid (AAt (w3.alloc (.cells #[.string sumT, .int .i64 tot] 45)) w3.heap.size 0 [⟨sumT, tot⟩]) := by
      refine ⟨by simp, fun j hj => ?_⟩
      obtain rfl : j = 0 := by simpa using hj
      exact (ABox.made w3 sumT tot).cells
    have HSZ3 : Hid (w1.heap.size + 1 ≤ (w3.alloc (.cells #[.string sumT, .int .i64 tot] 45)).heap.size) := by
      have h1 := HBL3.out.lt
      unfold Hid
      simp
      omega
    clear hb3 HG3 HG2 HBL2 HBL3 HB4 HB3
    go_wp2_with (first
      | (at_builtin; refine wpList_app_ams _ rfl _ _ rfl (w1.heap.size + 1) v2 l rfl HG4.out w3.heap.size 0 1 1 [⟨sumT, tot⟩] rfl HAT.out rfl (by rw [HN.out]; omega) HSZ3.out ?_
         rintro v5 w5 hg5 hgr5 hb5
         rw [← HWS.out] at hg5
         obtain ⟨gb, cb, rfl, hgB, hat5, hst5⟩ := hg5.stands (by rw [HSL.out]; omega)
         rw [HSL.out]
         have HGB := Lib.hid hgB
         have HAT5 := Lib.hid hat5
         have HST5 := Lib.hid hst5
         have HB6 := Lib.hid (HB5.out.trans (hb5.mono (by omega)))
         have HBL5 : Hid (Bld w5 w1.heap.size w1.heap.size []) := HBL4.out.grown hgr5 hb5 HG4.out (by omega)
         clear hg5 hgr5 hb5 hat5 hst5))
    go_loopw [27] (fun i wr => ∃ k : Nat, k ≤ n + 1 ∧ i = .int .i64 k ∧ (∀ j, j < k → fitA (anth (withSum l n) j) x = true) ∧ Bld wr w1.heap.size w1.heap.size (linesL (withSum l n) x k) ∧ Stands w5 wr gb ∧ Below w1.heap.size w1 wr) (fun i _ => n + 1 - (intOf i).toNat)
    case atStart => exact ⟨0, Nat.zero_le _, rfl, fun j hj => by omega, HBL5.out, HST5.out, HB6.out⟩
    case round =>
      clear HB6 HBL5 HST5
      obtain ⟨k, hk, rfl, hfk, hbl, hst, hb⟩ := hrel
      have HFK := Lib.hid hfk
      have HBL := Lib.hid hbl
      have HST := Lib.hid hst
      have HB := Lib.hid hb
      clear hfk hbl hst hb
      by_cases hlt : k < n + 1
      · have hltI : (k : Int) < (n : Int) + 1 := by omega
        obtain ⟨x0, x1⟩ := HST.out.am (HAT5.out.2 k (by rw [HSL.out]; exact hlt))
        rw [Nat.zero_add] at x0 x1
        obtain ⟨hmk, hnk⟩ := HW.out k hlt
        have HLG := Lib.hid (HLONG.out k hlt)
        have HFN : Hid (fitA (anth (withSum l n) k) x = true → ∀ j, j < k + 1 → fitA (anth (withSum l n) j) x = true) := fun h j hj => by
          by_cases e : j = k
          · subst e; exact h
          · exact HFK.out j (by omega)
        have HLS : Hid (linesL (withSum l n) x (k + 1) = linesL (withSum l n) x k ++ lineL (anth (withSum l n) k) x) := rfl
        have HLN : Hid (((linesL (withSum l n) x k).length : Int) ≤ 1900) := by
          unfold Hid
          rw [linesL_len HFK.out]
          have : (k : Int) * (x + 1) ≤ 31 * 61 := Int.mul_le_mul (by omega) (by omega) (by omega) (by omega)
          omega
        have HLL := Lib.hid (@lineL_len (anth (withSum l n) k) x)
        have HLD : Hid (lineL (anth (withSum l n) k) x = (anth (withSum l n) k).name.data.toList ++ List.replicate (dotsA (anth (withSum l n) k) x).toNat 46 ++ printL (anth (withSum l n) k).mon ++ [10]) := rfl
        have HDO : Hid (dotsA (anth (withSum l n) k) x = x - ((anth (withSum l n) k).name.size : Int) - ((printL (anth (withSum l n) k).mon).length : Int)) := rfl
        have HFD : Hid (fitA (anth (withSum l n) k) x = decide (2 ≤ dotsA (anth (withSum l n) k) x)) := rfl
        have HPL := Lib.hid (print_len hmk)
        have HMK := Lib.hid hmk
        clear hmk
        generalize fitA (anth (withSum l n) k) x = fk at *
        generalize lineL (anth (withSum l n) k) x = LK at *
        generalize dotsA (anth (withSum l n) k) x = dk at *
        generalize (anth (withSum l n) k).name = nm at *
        generalize (anth (withSum l n) k).mon = mo at *
        have HBX1 := Lib.hid (kbelow_box wr (.cells #[.string nm, .int .i64 mo] 45))
        have HAB := Lib.hid (ABox.made wr nm mo)
        have HST1 := Lib.hid (HST.out.below HBX1.out)
        have HBL1 := Lib.hid (HBL.out.below HBX1.out)
        have HBB1 := Lib.hid (HB.out.trans (HBX1.out.mono HB.out.size))
        have HT1 := Lib.hid ((HT.out.below HB1.out).below HBB1.out)
        have hwl : w1.heap.size < wr.heap.size := HBL.out.lt
        clear HST HBL
        go_wp2_with fail
        refine (print_t mo _ HMK.out HT1.out).mono ?_
        rintro e w6 ⟨rfl, hb6⟩
        have HAB6 := Lib.hid (HAB.out.below hb6)
        have HST6 := Lib.hid (HST1.out.below hb6)
        have HBL6 := Lib.hid (HBL1.out.below hb6)
        have HBB6 := Lib.hid (HBB1.out.trans (hb6.mono HBB1.out.size))
        have HPT : Hid ((⟨(printL mo).toArray⟩ : ByteArray).data.toList = printL mo) := by unfold Hid; simp
        have hps : (⟨(printL mo).toArray⟩ : ByteArray).size = (printL mo).length := by rw [size_toList, HPT.out]
        rw [← hps] at HPL HDO
        generalize (⟨(printL mo).toArray⟩ : ByteArray) = pt at *
        rw [← HPT.out] at HLD
        obtain ⟨y0, y1⟩ := HAB6.out.cells
        have hpl := HPL.out
        clear hb6 HAB HST1 HBL1 HBB1 HT1 HBX1 x0 x1 hps HPL HPT
        cases fk
        · obtain ⟨hE, hT⟩ := HLG.out rfl
          have hdk : dk < 2 := by have := of_decide_eq_false HFD.out.symm; omega
          have hd1 : x - (nm.size : Int) - (pt.size : Int) = dk := HDO.out.symm
          have HE := Lib.hid hE
          have HTT := Lib.hid hT
          clear hE hT
          go_wp2_with fail
          go_ret2
          exact ⟨ret_se HTT.out.symm HE.out.symm, HB1.out.trans (HBB6.out.mono HB1.out.size)⟩
        · have hdk : 2 ≤ dk := of_decide_eq_true HFD.out.symm
          have hd1 : x - (nm.size : Int) - (pt.size : Int) = dk := HDO.out.symm
          obtain ⟨r, rfl⟩ : ∃ r : Nat, dk = (r : Int) := ⟨dk.toNat, by omega⟩
          have hr60 : r ≤ 60 := by omega
          have HLK := Lib.hid (HLL.out rfl)
          have HDT := Lib.hid (dotT_list r)
          have HDZ := Lib.hid (dotT_size r)
          rw [Int.toNat_natCast] at HLD
          have HPS : Hid (pt.size ≤ 60) := by unfold Hid; omega
          have HNS := Lib.hid hnk
          have hpt60 : pt.size ≤ 60 := HPS.out
          go_wp2_with fail
          go_region_held3 (fun w' => w'.cell? ⟨wr.heap.size, 0, none⟩ = some (.string nm) ∧ w'.cell? ⟨wr.heap.size, 1, none⟩ = some (.int .i64 mo)) (go_keep)
            (first
              | (have := HX7; go_at_call 20; refine (write_any w1.heap.size w1.heap.size (linesL (withSum l n) x k) _ _ HBL7.out ?_ ?_).mono ?_
                 · have h1 := HLZ.out; have h2 := HLN.out; omega
                 · exact HBB7.out.size
                 rintro e w8 ⟨rfl, hbl8, hb8, ho8⟩
                 have HBL8 := Lib.hid hbl8
                 have HBB8 := Lib.hid (HBB7.out.trans hb8)
                 have HX8 := Lib.hid (HX7.out.others ho8 (by omega))
                 have HST8 := Lib.hid (HST7.out.others ho8 (by have := HGB.out; omega))
                 obtain ⟨f0, f1⟩ := HX8.out.cells
                 clear hbl8 hb8 ho8)
              | (go_at_call 21; refine (dots_any r _ hr60).mono ?_; rintro e w7 ⟨rfl, hb7⟩
                 have HX7 := Lib.hid (HAB6.out.below ((Below.refl w6.heap.size w6).drew.trans hb7))
                 have HST7 := Lib.hid (HST6.out.below ((Below.refl w6.heap.size w6).drew.trans hb7))
                 have HBL7 := Lib.hid (HBL6.out.below ((Below.refl w6.heap.size w6).drew.trans hb7))
                 have HBB7 := Lib.hid (HBB6.out.trans (((Below.refl w6.heap.size w6).drew.trans hb7).mono HBB6.out.size))
                 generalize dotT r = dt at *
                 have j1 := join_run (a := nm) (b := dt) (by rw [HDZ.out]; have := HNS.out; omega)
                 have j2 := join_run (a := nm ++ dt) (b := pt) (by rw [ByteArray.size_append, HDZ.out]; have := HNS.out; omega)
                 have j3 := join_run (a := nm ++ dt ++ pt) (b := ⟨#[10]⟩) (by rw [ByteArray.size_append, ByteArray.size_append, HDZ.out]; show nm.size + r + pt.size + 1 ≤ _; have := HNS.out; omega)
                 have HLI : Hid ((nm ++ dt ++ pt ++ (⟨#[10]⟩ : ByteArray)).data.toList = LK) := by
                   unfold Hid
                   rw [HLD.out, ba_append, ba_append, ba_append, HDT.out]
                 have HLZ : Hid ((nm ++ dt ++ pt ++ (⟨#[10]⟩ : ByteArray)).size ≤ 200) := by
                   unfold Hid
                   rw [ByteArray.size_append, ByteArray.size_append, ByteArray.size_append, HDZ.out]
                   show nm.size + r + pt.size + 1 ≤ 200
                   have := HNS.out
                   omega
                 obtain ⟨e0, e1⟩ := HX7.out.cells
                 clear hb7))
          all_goals go_wp2_with fail
          all_goals
            go_roundw
            case rel =>
              refine ⟨k + 1, by omega, by go_num, HFN.out (by first | trivial | rfl), ?_, HST8.out, HBB8.out⟩
              rw [HLS.out, ← HLI.out]
              exact HBL8.out
            case measure => simp [intOf]; omega
      · obtain rfl : k = n + 1 := by omega
        obtain ⟨hE, hT⟩ := HOK.out HFK.out
        have HE := Lib.hid hE
        have HTT := Lib.hid hT
        clear hE hT
        go_wp2_with fail
        refine (string_any w1.heap.size w1.heap.size _ _ HBL.out HB.out.size).mono ?_
        rintro e w8 ⟨rfl, hb8⟩
        have HB8 := Lib.hid (HB.out.trans hb8)
        clear hb8
        go_wp2_with fail
        go_ret2
        exact ⟨ret_se HTT.out.symm HE.out.symm, HB1.out.trans (HB8.out.mono HB1.out.size)⟩
  · obtain ⟨hE, hT⟩ := shE_bad hz
    have HE := Lib.hid hE
    have HTT := Lib.hid hT
    have hzB : (chkE l n x != 0) = true := by simpa using hz
    have hzD : decide (chkE l n x = 0) = false := decide_eq_false hz
    clear hE hT hz
    go_enter Tryd.func8, Tryd.ntmps8
    go_wp2_with fail
    refine HCK.out.mono ?_
    rintro e w1 ⟨rfl, hb1⟩
    have HB1 := Lib.hid hb1
    clear hb1
    generalize chkE l n x = ce at *
    go_wp2_with fail
    go_ret2
    exact ⟨ret_se HTT.out.symm HE.out.symm, HB1.out⟩
end Go.Proofs.YtmchanddfodhaaaDoor
