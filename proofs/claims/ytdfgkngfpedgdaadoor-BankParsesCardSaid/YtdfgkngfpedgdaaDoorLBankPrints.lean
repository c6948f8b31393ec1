/-
  Promises P2, P3: the walk of the reference's FileText, and of the law BankPrints: it answers true at every input.
-/
import Derived.Test.YtdfgkngfpedgdaaDoorBPrint
namespace Go.Proofs.YtdfgkngfpedgdaaDoor
open Go.RowKit

theorem conv_nl (w : World) :
    (convert 51 9 (.slice (some ⟨w.heap.size, 0, none⟩) 1 1)).run Tryd.prog (w.alloc (.cells #[.int .u8 10] 5)) = .ok (.string ⟨#[10]⟩) (w.alloc (.cells #[.int .u8 10] 5)) := by
  have := run_convert_bytes_back (P := Tryd.prog) (w.alloc (.cells #[.int .u8 10] 5)) 51 9 5 ⟨w.heap.size, 0, none⟩ 1 [10] Tryd.underlying51 Tryd.underlying5 Tryd.underlying9 (fun j hj => by
    match j, hj with
    | 0, _ =>
      rw [Addr.add_lit, Nat.zero_add, World.cell?_alloc_at (w := w) _ _ _ _ rfl]
      rfl)
  exact this
theorem padded_rk (n k : Nat) (D : Int) (hD : D = (k : Int)) (w : World) (hk : k ≤ 15) (hn : n < 9223372036854775807) :
    Calls Tryd.prog 33 #[.int .i64 (n : Int), .int .i64 D] w fun e w' => e = .returned (.string (padT n k)) ∧ Below w.heap.size w w' := by
  rw [hD]
  exact padded_ref n k w hk hn
def lenOf : Value → Nat
  | .string t => t.size
  | _ => 0
def txt (l : List UInt8) : ByteArray := ⟨l.toArray⟩
theorem txt_list (l : List UInt8) : (txt l).data.toList = l := by simp [txt]
theorem txt_size (l : List UInt8) : (txt l).size = l.length := by rw [size_toList, txt_list]
theorem txt_of {s : ByteArray} {l : List UInt8} (h : s.data.toList = l) : s = txt l := ba_ext (by rw [h, txt_list])
theorem join_any {a b : ByteArray} (h : a.size + b.size ≤ 1000000) : a.size + b.size ≤ 9223372036854775807 := by omega
set_option maxRecDepth 100000 in
set_option maxHeartbeats 4000000 in
theorem fileText_ref (dN : Nat) (a : Option Addr) (n cap : Nat) (l : List Py) (w : World) (hc : CameP w a l) (hn : l.length = n) (hm : n ≤ 300) (hok : ∀ j, j < n → OkP (pnth l j)) (hd : dN ≤ 73048) :
    Calls Tryd.prog 20 #[.int .i64 (dN : Int), .slice a n cap] w fun e w' => e = .returned (.string (fileT (dN : Int) l n)) ∧ Below w.heap.size w w' := by
  have HC := Lib.hid hc
  have HN := Lib.hid hn
  have HOK := Lib.hid hok
  have HMB : Hid (MonB l) := fun j hj => by
    have := (hok j (by omega)).2.1
    exact ⟨by omega, this.2⟩
  have HSU := Lib.hid (fun w hc => paySum_ref a n cap l w hc HN.out (by omega) HMB.out)
  have HCN := Lib.hid (fun w hc => fileCheck_ref (dN : Int) a n cap l w hc HN.out hm HOK.out (by omega))
  have hsb := sumL_bd HMB.out l.length (Nat.le_refl _)
  rw [List.take_length] at hsb
  have hcb := chkN_bd l (dN : Int) n
  obtain ⟨sN, hsN⟩ : ∃ sN : Nat, sumL l = (sN : Int) := ⟨(sumL l).toNat, by omega⟩
  obtain ⟨cN, hcN⟩ : ∃ cN : Nat, chkN l (dN : Int) n = (cN : Int) := ⟨(chkN l (dN : Int) n).toNat, by omega⟩
  have HFI : Hid (fileT (dN : Int) l n = txt (headL dN n sN ++ linesL l n ++ endL cN)) := by
    unfold Hid fileT fileL txt
    rw [hsN, hcN]
    rfl
  rw [hsN] at HSU hsb
  rw [hcN] at HCN hcb
  have hs63 : sN < 9223372036854775807 := by rw [HN.out] at hsb; omega
  have hc63 : cN < 9223372036854775807 := by omega
  have HLL := Lib.hid (linesL_len HOK.out)
  have hcv := conv_nl w
  have HB0 := Lib.hid (bbelow_box w (.cells #[.int .u8 10] 5))
  generalize fileT (dN : Int) l n = FT at *
  clear hc hn hok hsb hcb hsN hcN
  go_enter Tryd.func20, Tryd.ntmps20
  go_wp2_with fail
  refine (padded_rk dN 5 5 rfl _ (by omega) (by omega)).mono ?_
  rintro e w2 ⟨rfl, hb2⟩
  have HB2 := Lib.hid (HB0.out.trans (hb2.mono HB0.out.size))
  clear hb2 hcv
  have hz0 : (⟨#[70]⟩ : ByteArray).size + (padT dN 5).size ≤ 9223372036854775807 := by rw [padT_size]; decide
  go_wp2_with fail
  have HA1 : Hid (((⟨#[70]⟩ : ByteArray) ++ padT dN 5).data.toList = [70] ++ sfx dN 5) := by unfold Hid; rw [ba_append, padT_list]
  have hz1 : ((⟨#[70]⟩ : ByteArray) ++ padT dN 5).size = 6 := by rw [ByteArray.size_append, padT_size]; rfl
  generalize ((⟨#[70]⟩ : ByteArray) ++ padT dN 5) = A1 at *
  have hz1' : A1.size + (padT n 3).size ≤ 9223372036854775807 := by rw [padT_size, hz1]; omega
  have HZ1 := Lib.hid hz1
  clear hz1 hz0
  refine (padded_rk n 3 3 rfl _ (by omega) (by omega)).mono ?_
  rintro e w3 ⟨rfl, hb3⟩
  have HB3 := Lib.hid (HB2.out.trans (hb3.mono HB2.out.size))
  clear hb3
  go_wp2_with fail
  have HA2 : Hid ((A1 ++ padT n 3).data.toList = [70] ++ sfx dN 5 ++ sfx n 3) := by unfold Hid; rw [ba_append, padT_list, HA1.out]
  have hz2 : (A1 ++ padT n 3).size = 9 := by rw [ByteArray.size_append, padT_size, HZ1.out]
  generalize (A1 ++ padT n 3) = A2 at *
  have hz2' : A2.size + (padT sN 15).size ≤ 9223372036854775807 := by rw [padT_size, hz2]; omega
  have HZ2 := Lib.hid hz2
  clear hz2 hz1'
  refine (HSU.out _ (HC.out.below HB3.out)).mono ?_
  rintro e w4 ⟨rfl, h4⟩
  subst w4
  go_wp2_with fail
  refine (padded_rk sN 15 15 rfl _ (by omega) hs63).mono ?_
  rintro e w5 ⟨rfl, hb5⟩
  have HB5 := Lib.hid (HB3.out.trans (hb5.mono HB3.out.size))
  clear hb5
  have hz3' : (A2 ++ padT sN 15).size + (⟨#[10]⟩ : ByteArray).size ≤ 9223372036854775807 := by rw [ByteArray.size_append, padT_size, HZ2.out]; decide
  go_wp2_with fail
  have HA3 : Hid ((A2 ++ padT sN 15 ++ (⟨#[10]⟩ : ByteArray)) = txt (headL dN n sN ++ linesL l 0)) := by
    refine txt_of ?_
    rw [ba_append, ba_append, padT_list, HA2.out, linesL, List.append_nil]
    rfl
  rw [HA3.out]
  have HO := Lib.hid (fun h0 => HC.out.open HN.out h0)
  clear hz3' hz2' HA1 HA2 HZ1 HZ2
  go_loopw [6, 7] (fun sv i wr => ∃ k : Nat, k ≤ n ∧ i = .int .i64 k ∧ sv = .string (txt (headL dN n sN ++ linesL l k)) ∧ Below w.heap.size w wr) (fun _ i _ => n - (intOf i).toNat)
  case atStart => exact ⟨0, Nat.zero_le _, rfl, rfl, HB5.out⟩
  case round =>
    obtain ⟨k, hk, rfl, rfl, hb⟩ := hrel
    have HB := Lib.hid hb
    clear hb
    by_cases hlt : k < n
    · have hlt' : (k : Int) < (n : Int) := by omega
      obtain ⟨b, off, rfl, hbl, hcell⟩ := HO.out (by omega)
      obtain ⟨x0, x1, x2, x3⟩ := hcell wr HB.out k hlt
      have hokk := HOK.out k hlt
      have HLN := Lib.hid (HLL.out k hk)
      have HLS : Hid (linesL l (k + 1) = linesL l k ++ payL (pnth l k)) := rfl
      have HPL : Hid (payL (pnth l k) = [80] ++ (pnth l k).acc.data.toList ++ sfx (pnth l k).mon.toNat 13 ++ sfx (pnth l k).ref.toNat 6 ++ (pnth l k).nam.data.toList ++ List.replicate (12 - (pnth l k).nam.size) 46 ++ [10]) := rfl
      have HPLN := Lib.hid (payL_len hokk)
      obtain ⟨_, _, hz12, _⟩ := hokk.num
      obtain ⟨_, hnz⟩ := hokk.nam
      obtain ⟨_, ⟨m0, m1⟩, r0, r1⟩ := hokk
      have HCELL : Hid (∀ w', Below w.heap.size w w' → PyAt w' b (off + k * 4) (pnth l k)) := fun w' h => hcell w' h k hlt
      clear hcell hbl
      generalize payL (pnth l k) = PL at *
      generalize pnth l k = P at *
      obtain ⟨ac, nm, mo, rf⟩ := P
      dsimp only at x0 x1 x2 x3 HPL hz12 hnz m0 m1 r0 r1
      obtain ⟨mN, rfl⟩ : ∃ mN : Nat, mo = (mN : Int) := ⟨mo.toNat, by omega⟩
      obtain ⟨rN, rfl⟩ : ∃ rN : Nat, rf = (rN : Int) := ⟨rf.toNat, by omega⟩
      have HAZ := Lib.hid hz12
      have hm63 : mN < 9223372036854775807 := by omega
      have hr63 : rN < 9223372036854775807 := by omega
      have HTL : Hid (txt (headL dN n sN ++ linesL l (k + 1)) = txt (headL dN n sN ++ linesL l k) ++ txt PL) := by
        unfold Hid
        symm
        refine txt_of ?_
        rw [ba_append, txt_list, txt_list, HLS.out, List.append_assoc]
      have HTZ : Hid ((txt (headL dN n sN ++ linesL l k)).size ≤ 20000) := by
        unfold Hid
        rw [txt_size, List.length_append, headL_len, HLN.out]
        omega
      have HP1 := Lib.hid (fun w => padded_rk mN 13 13 rfl w (by omega) hm63)
      have HP2 := Lib.hid (fun w => padded_rk rN 6 6 rfl w (by omega) hr63)
      generalize txt (headL dN n sN ++ linesL l k) = SK at *
      clear hz12 m0 m1 r0 r1 HLN HLS
      go_wp2_with fail
      have HN0 : Hid (nm = txt (nm.data.toList ++ List.replicate 0 46)) := txt_of (by simp)
      go_loop [8] (fun nv => ∃ j : Nat, nm.size + j ≤ 12 ∧ nv = .string (txt (nm.data.toList ++ List.replicate j 46))) (fun nv => 12 - lenOf nv)
      case atStart => exact ⟨0, by omega, by rw [← HN0.out]⟩
      case round =>
        obtain ⟨j, hj, rfl⟩ := hrel
        have hjz : (txt (nm.data.toList ++ List.replicate j 46)).size = nm.size + j := by rw [txt_size, List.length_append, List.length_replicate, ← size_toList]
        by_cases hj12 : nm.size + j < 12
        · have hj12' : ((txt (nm.data.toList ++ List.replicate j 46)).size : Int) < 12 := by rw [hjz]; omega
          have HNX : Hid (txt (nm.data.toList ++ List.replicate j 46) ++ ⟨#[46]⟩ = txt (nm.data.toList ++ List.replicate (j + 1) 46)) := by
            refine txt_of ?_
            rw [ba_append, txt_list, List.append_assoc, List.replicate_succ']
          have HJ2 : Hid ((txt (nm.data.toList ++ List.replicate (j + 1) 46)).size = nm.size + (j + 1)) := by unfold Hid; rw [txt_size, List.length_append, List.length_replicate, ← size_toList]
          have hsum : (txt (nm.data.toList ++ List.replicate j 46)).size + (⟨#[46]⟩ : ByteArray).size ≤ 9223372036854775807 := by rw [hjz]; show nm.size + j + 1 ≤ _; omega
          have HJZ := Lib.hid hjz
          clear hjz
          generalize txt (nm.data.toList ++ List.replicate j 46) = TJ at *
          go_wp2_with fail
          go_round
          case rel => exact ⟨j + 1, by omega, by rw [HNX.out]⟩
          case measure =>
            rw [HNX.out]
            show 12 - (txt (nm.data.toList ++ List.replicate (j + 1) 46)).size < 12 - TJ.size
            rw [HJ2.out, HJZ.out]
            omega
        · have hj12' : ¬ (((txt (nm.data.toList ++ List.replicate j 46)).size : Int) < 12) := by rw [hjz]; omega
          have HJ : Hid (j = 12 - nm.size) := by unfold Hid; omega
          have HTL2 := Lib.hid (txt_list (nm.data.toList ++ List.replicate j 46))
          have HJZ : Hid ((txt (nm.data.toList ++ List.replicate j 46)).size ≤ 12) := by unfold Hid; rw [hjz]; exact hj
          clear hjz hj hj12
          generalize txt (nm.data.toList ++ List.replicate j 46) = TJ at *
          have j1 := join_run (a := ⟨#[80]⟩) (b := ac) (by rw [HAZ.out]; decide)
          have j2 := join_run (a := (⟨#[80]⟩ : ByteArray) ++ ac) (b := padT mN 13) (by rw [ByteArray.size_append, padT_size, HAZ.out]; decide)
          have j3 := join_run (a := (⟨#[80]⟩ : ByteArray) ++ ac ++ padT mN 13) (b := padT rN 6) (by rw [ByteArray.size_append, ByteArray.size_append, padT_size, padT_size, HAZ.out]; decide)
          have j4 := join_run (a := (⟨#[80]⟩ : ByteArray) ++ ac ++ padT mN 13 ++ padT rN 6) (b := TJ) (by rw [ByteArray.size_append, ByteArray.size_append, ByteArray.size_append, padT_size, padT_size, HAZ.out]; show 1 + 12 + 13 + 6 + TJ.size ≤ 1000000; have := HJZ.out; omega)
          have j5 := join_run (a := (⟨#[80]⟩ : ByteArray) ++ ac ++ padT mN 13 ++ padT rN 6 ++ TJ) (b := ⟨#[10]⟩) (by rw [ByteArray.size_append, ByteArray.size_append, ByteArray.size_append, ByteArray.size_append, padT_size, padT_size, HAZ.out]; show 1 + 12 + 13 + 6 + TJ.size + 1 ≤ 1000000; have := HJZ.out; omega)
          have HLI : Hid ((⟨#[80]⟩ : ByteArray) ++ ac ++ padT mN 13 ++ padT rN 6 ++ TJ ++ ⟨#[10]⟩ = txt PL) := by
            refine txt_of ?_
            rw [HPL.out, ba_append, ba_append, ba_append, ba_append, ba_append, padT_list, padT_list, HTL2.out, HJ.out]
            simp
          have j6 := join_run (a := SK) (b := (⟨#[80]⟩ : ByteArray) ++ ac ++ padT mN 13 ++ padT rN 6 ++ TJ ++ ⟨#[10]⟩) (by rw [HLI.out, txt_size, HPLN.out]; have := HTZ.out; omega)
          go_wp2_with fail
          have k0 := cell_regrown x0
          have k1 := cell_regrown x1
          have k2 := cell_regrown x2
          have k3 := cell_regrown x3
          refine wp_region_quiet_below (by kernel_rfl) (by kernel_rfl) ?_
          repeat (go_big_quiet_step (first | (go_at_call_of 33 mN; exact Calls.regrown_of (HP1.out _)) | (go_at_call_of 33 rN; exact Calls.regrown_of (HP2.out _))))
          refine wpQuiet_nil ?_
          intro _ hw'
          obtain ⟨⟨dq, osq⟩, hw''⟩ := hw'
          subst hw''
          go_wp2_with fail
          go_roundw
          case rel => exact ⟨k + 1, by omega, by go_num, by rw [HTL.out, HLI.out], HB.out.trans ((below_regrown _ dq osq).mono HB.out.size)⟩
          case measure => simp [intOf]; omega
    · obtain rfl : n = k := by omega
      have HTZ : Hid ((txt (headL dN n sN ++ linesL l n)).size ≤ 20000) := by
        unfold Hid
        rw [txt_size, List.length_append, headL_len, HLL.out n hk]
        omega
      have HEND : Hid (txt (headL dN n sN ++ linesL l n) ++ ⟨#[69]⟩ ++ padT cN 10 ++ ⟨#[10]⟩ = FT) := by
        unfold Hid
        rw [HFI.out]
        refine txt_of ?_
        rw [ba_append, ba_append, ba_append, txt_list, padT_list]
        simp [endL]
      generalize txt (headL dN n sN ++ linesL l n) = SK at *
      have hz0 : SK.size + (⟨#[69]⟩ : ByteArray).size ≤ 9223372036854775807 := by have := HTZ.out; show SK.size + 1 ≤ _; omega
      have hz1 : (SK ++ (⟨#[69]⟩ : ByteArray)).size + (padT cN 10).size ≤ 9223372036854775807 := by have := HTZ.out; rw [ByteArray.size_append, padT_size]; show SK.size + 1 + 10 ≤ _; omega
      have hz2 : (SK ++ (⟨#[69]⟩ : ByteArray) ++ padT cN 10).size + (⟨#[10]⟩ : ByteArray).size ≤ 9223372036854775807 := by have := HTZ.out; rw [ByteArray.size_append, ByteArray.size_append, padT_size]; show SK.size + 1 + 10 + 1 ≤ _; omega
      go_wp2_with fail
      refine (HCN.out _ (HC.out.below HB.out)).mono ?_
      rintro e w8 ⟨rfl, hb8⟩
      have HB8 := Lib.hid (HB.out.trans (hb8.mono HB.out.size))
      clear hb8
      go_wp2_with fail
      refine (padded_rk cN 10 10 rfl _ (by omega) hc63).mono ?_
      rintro e w9 ⟨rfl, hb9⟩
      have HB9 := Lib.hid (HB8.out.trans (hb9.mono HB8.out.size))
      clear hb9
      go_wp2_with fail
      go_ret
      exact ⟨by rw [← HEND.out]; rfl, HB9.out⟩
theorem dayIs_any (day : Int) (w : World) : Calls Tryd.prog 18 #[.int .i64 day] w fun e w' => e = .returned (.int .i64 (if dayB day = true then 0 else 3)) ∧ w' = w := by
  cases hd : dayB day
  · go_enter Tryd.func18, Tryd.ntmps18
    go_wp2_with (go_at_call 42; refine (isDay_ref _ _).mono ?_; rintro e w' ⟨rfl, h'⟩; subst w'; rw [hd])
    go_ret
    exact ⟨rfl, rfl⟩
  · go_enter Tryd.func18, Tryd.ntmps18
    go_wp2_with (go_at_call 42; refine (isDay_ref _ _).mono ?_; rintro e w' ⟨rfl, h'⟩; subst w'; rw [hd])
    go_ret
    exact ⟨rfl, rfl⟩
set_option maxRecDepth 100000 in
set_option maxHeartbeats 2000000 in
theorem walk_bankPrints {w : World} (day : Int) (_ : (Lit.int .i64 day).wf = true) (a : Option Addr) (n cap : Nat) (l : List Py) (hc : CameP w a l) (hn : l.length = n) (hm : n ≤ maxLen) (hf : ∀ j, j < n → FitP (pnth l j)) (ht : Tab w) :
    Calls Tryd.prog 4 #[.int .i64 day, .slice a n cap] w fun e w' => e = .returned (.bool true) ∧ Below w.heap.size w w' := by
  have hmI : n ≤ 9223372036854775807 := by unfold maxLen at hm; omega
  have HK := Lib.hid (Print_any day a n cap l w ht hc hf hn hmI)
  have HCR := Lib.hid (fun w hc => checkPayments_ref a n cap l w hc hf hn hmI)
  have HT := Lib.hid ht
  have HC := Lib.hid hc
  have HN := Lib.hid hn
  clear ht hc hn hf hm
  cases hd : dayB day
  · rw [(pr_day hd).1, (pr_day hd).2] at HK
    go_enter Tryd.func4, Tryd.ntmps4
    go_wp2_with fail
    refine HK.out.mono ?_
    rintro e w1 ⟨rfl, hb1⟩
    have HB3 := Lib.hid hb1
    clear hb1
    go_wp2_with (go_at_call 18; refine (dayIs_any _ _).mono ?_; rintro e w' ⟨rfl, h'⟩; subst w'; rw [hd, if_neg (by simp)])
    refine (begun_any _ (HT.out.below HB3.out)).mono ?_
    rintro e w4 ⟨rfl, hb4⟩
    have HB4 := Lib.hid (HB3.out.trans (hb4.mono HB3.out.size))
    clear hb4
    go_wp2_with fail
    refine (textIs_bad 3 _ _ (by decide)).mono ?_
    rintro e w' ⟨rfl, h'⟩
    subst w'
    go_wp2_with fail
    go_ret
    exact ⟨rfl, HB4.out⟩
  · by_cases hp : payE l n = 0
    · rw [(pr_ok hd hp).1, (pr_ok hd hp).2] at HK
      rw [hp] at HCR
      obtain ⟨h300, hall, _⟩ := payE_zero hp
      have hdd := dayB_iff.1 hd
      obtain ⟨dN, hdN⟩ : ∃ dN : Nat, day = (dN : Int) := ⟨day.toNat, by omega⟩
      have HFT := Lib.hid (fun w hc => fileText_ref dN a n cap l w hc HN.out h300 (okP_of hall) (by omega))
      subst hdN
      clear hp hall hdd
      generalize fileT (dN : Int) l n = FT at *
      go_enter Tryd.func4, Tryd.ntmps4
      go_wp2_with fail
      refine HK.out.mono ?_
      rintro e w1 ⟨rfl, hb1⟩
      have HB1 := Lib.hid hb1
      clear hb1
      go_wp2_with (go_at_call 18; refine (dayIs_any _ _).mono ?_; rintro e w' ⟨rfl, h'⟩; subst w'; rw [hd, if_pos rfl])
      refine (HCR.out _ (HC.out.below HB1.out)).mono ?_
      rintro e w2 ⟨rfl, hb2⟩
      have HB2 := Lib.hid (HB1.out.trans (hb2.mono HB1.out.size))
      clear hb2
      go_wp2_with fail
      refine (HFT.out _ (HC.out.below HB2.out)).mono ?_
      rintro e w3 ⟨rfl, hb3⟩
      have HB3 := Lib.hid (HB2.out.trans (hb3.mono HB2.out.size))
      clear hb3
      go_wp2_with fail
      refine (begun_any _ (HT.out.below HB3.out)).mono ?_
      rintro e w4 ⟨rfl, hb4⟩
      have HB4 := Lib.hid (HB3.out.trans (hb4.mono HB3.out.size))
      clear hb4
      go_wp2_with fail
      refine (textIs_ok FT _).mono ?_
      rintro e w' ⟨rfl, h'⟩
      subst w'
      go_wp2_with fail
      go_ret
      exact ⟨rfl, HB4.out⟩
    · rw [(pr_pay hd hp).1, (pr_pay hd hp).2] at HK
      have heB : (payE l n == 0) = false := by simpa using hp
      have heD : decide (payE l n = 0) = false := decide_eq_false hp
      have HNE := Lib.hid hp
      clear hp
      go_enter Tryd.func4, Tryd.ntmps4
      go_wp2_with fail
      refine HK.out.mono ?_
      rintro e w1 ⟨rfl, hb1⟩
      have HB1 := Lib.hid hb1
      clear hb1
      go_wp2_with (go_at_call 18; refine (dayIs_any _ _).mono ?_; rintro e w' ⟨rfl, h'⟩; subst w'; rw [hd, if_pos rfl])
      refine (HCR.out _ (HC.out.below HB1.out)).mono ?_
      rintro e w3 ⟨rfl, hb3⟩
      have HB3 := Lib.hid (HB1.out.trans (hb3.mono HB1.out.size))
      clear hb3
      go_wp2_with fail
      refine (begun_any _ (HT.out.below HB3.out)).mono ?_
      rintro e w4 ⟨rfl, hb4⟩
      have HB4 := Lib.hid (HB3.out.trans (hb4.mono HB3.out.size))
      clear hb4
      go_wp2_with fail
      refine (textIs_bad (payE l n) _ _ HNE.out).mono ?_
      rintro e w' ⟨rfl, h'⟩
      subst w'
      go_wp2_with fail
      go_ret
      exact ⟨rfl, HB4.out⟩
end Go.Proofs.YtdfgkngfpedgdaaDoor
