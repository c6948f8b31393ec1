/-
  Promise U1: the walks of the reference's SheetLine and SheetText; sheetBegun; the law SheetPrints.
-/
import Derived.Test.YtmchanddfodhaaaDoorShPrn
import Derived.Test.YtmchanddfodhaaaDoorMDigits
namespace Go.Proofs.YtmchanddfodhaaaDoor
open Go.RowKit Mny

theorem moneyText_t (n : Int) (w : World) (h : monB n = true) :
    Calls Tryd.prog 44 #[.int .i64 n] w fun e w' => e = .returned (.string ⟨(printL n).toArray⟩) ∧ Below w.heap.size w w' := by
  refine (moneyText_any n w h).mono ?_
  rintro e w' ⟨s, rfl, hs, hb⟩
  refine ⟨?_, hb⟩
  have : s = ⟨(printL n).toArray⟩ := ba_ext (by simpa using hs)
  rw [this]
theorem conv_feed (w : World) :
    (convert 38 9 (.slice (some ⟨w.heap.size, 0, none⟩) 1 1)).run Tryd.prog (w.alloc (.cells #[.int .u8 10] 5)) = .ok (.string ⟨#[10]⟩) (w.alloc (.cells #[.int .u8 10] 5)) := by
  have := run_convert_bytes_back (P := Tryd.prog) (w.alloc (.cells #[.int .u8 10] 5)) 38 9 5 ⟨w.heap.size, 0, none⟩ 1 [10] Tryd.underlying38 Tryd.underlying5 Tryd.underlying9 (fun j hj => by
    match j, hj with
    | 0, _ =>
      rw [Addr.add_lit, Nat.zero_add, World.cell?_alloc_at (w := w) _ _ _ _ rfl]
      rfl)
  exact this
theorem ret_str {s t : ByteArray} (h : s = t) : Ending.returned (.string s) = .returned (.string t) := by rw [h]
/-- The text of a line; none where it would be too long. -/
def lineT (r : Am) (x : Int) : ByteArray := if fitA r x = true then ⟨(lineL r x).toArray⟩ else nilT
theorem lineT_list {r : Am} {x : Int} (h : fitA r x = true) : (lineT r x).data.toList = lineL r x := by
  unfold lineT
  rw [if_pos h]
set_option maxRecDepth 100000 in
set_option maxHeartbeats 1000000 in
theorem sheetLine_ref (nm : ByteArray) (mo x : Int) (w : World) (hm : monB mo = true) (hn : nm.size ≤ 8) (h20 : 20 ≤ x) (h60 : x ≤ 60) :
    Calls Tryd.prog 26 #[.string nm, .int .i64 mo, .int .i64 x] w fun e w' => e = .returned (.string (lineT ⟨nm, mo⟩ x)) ∧ Below w.heap.size w w' := by
  have HP : Hid ((⟨(printL mo).toArray⟩ : ByteArray).data.toList = printL mo) := by unfold Hid; simp
  have hps : (⟨(printL mo).toArray⟩ : ByteArray).size = (printL mo).length := by rw [size_toList, HP.out]
  have hpl := print_len hm
  have HMT := Lib.hid (moneyText_t mo w hm)
  have HD : Hid (dotsA ⟨nm, mo⟩ x = x - (nm.size : Int) - ((⟨(printL mo).toArray⟩ : ByteArray).size : Int)) := by unfold Hid; rw [hps]; rfl
  have HLL : Hid (lineL ⟨nm, mo⟩ x = nm.data.toList ++ List.replicate (dotsA ⟨nm, mo⟩ x).toNat 46 ++ (⟨(printL mo).toArray⟩ : ByteArray).data.toList ++ [10]) := by unfold Hid; rw [HP.out]; rfl
  rw [← hps] at hpl
  generalize (⟨(printL mo).toArray⟩ : ByteArray) = pt at *
  clear hps HP
  by_cases hd : 2 ≤ dotsA ⟨nm, mo⟩ x
  · have hfit : fitA ⟨nm, mo⟩ x = true := decide_eq_true hd
    have HT : Hid (lineT ⟨nm, mo⟩ x = ⟨(lineL ⟨nm, mo⟩ x).toArray⟩) := by unfold Hid lineT; rw [if_pos hfit]
    obtain ⟨r, hr⟩ : ∃ r : Nat, dotsA ⟨nm, mo⟩ x = (r : Int) := ⟨(dotsA ⟨nm, mo⟩ x).toNat, by omega⟩
    rw [hr] at HLL HD
    rw [Int.toNat_natCast] at HLL
    generalize lineT ⟨nm, mo⟩ x = LT at *
    generalize lineL ⟨nm, mo⟩ x = LL at *
    have hD := HD.out
    have hgo : ¬ (x < (nm.size : Int) + (pt.size : Int) + 2) := by omega
    have HDD := Lib.hid hD
    have HR2 : Hid (2 ≤ r) := by unfold Hid; omega
    clear hD hd hr hfit HD
    have hcf := conv_feed
    go_enter Tryd.func26, Tryd.ntmps26
    go_wp2_with fail
    refine HMT.out.mono ?_
    rintro e w1 ⟨rfl, hb1⟩
    have HB1 := Lib.hid hb1
    clear hb1
    go_wp2_with fail
    go_loopw [0] (fun s wr => ∃ k : Nat, k ≤ r ∧ s = .string (nm ++ dotT k) ∧ wr = w1) (fun s _ => match s with | .string t => x.toNat - t.size | _ => 0)
    case atStart =>
      refine ⟨0, Nat.zero_le _, ?_, rfl⟩
      refine congrArg Value.string (ba_ext ?_)
      rw [ba_append, dotT_list]
      simp
    case round =>
      obtain ⟨k, hk, rfl, rfl⟩ := hrel
      have HSZ : Hid ((nm ++ dotT k).size = nm.size + k) := by unfold Hid; rw [ByteArray.size_append, dotT_size]
      have HNX : Hid (nm ++ dotT k ++ (⟨#[46]⟩ : ByteArray) = nm ++ dotT (k + 1)) := by
        refine ba_ext ?_
        rw [ba_append, ba_append, ba_append, dotT_list, dotT_list, List.replicate_succ']
        simp
      have HNZ : Hid ((nm ++ dotT (k + 1)).size = nm.size + k + 1) := by unfold Hid; rw [ByteArray.size_append, dotT_size]; omega
      have HEQ : Hid (k = r → (nm ++ dotT k ++ pt ++ (⟨#[10]⟩ : ByteArray)) = ⟨LL.toArray⟩) := fun e => by
        refine ba_ext ?_
        rw [ba_append, ba_append, ba_append, dotT_list, e]
        rw [HLL.out]
      have hsz := HSZ.out
      have hdd := HDD.out
      by_cases hlt : k < r
      · have hgo2 : ((nm ++ dotT k).size : Int) + (pt.size : Int) < x := by omega
        have hj : (nm ++ dotT k).size + (⟨#[46]⟩ : ByteArray).size ≤ 9223372036854775807 := by rw [hsz]; show nm.size + k + 1 ≤ _; omega
        have hms : x.toNat - (nm.size + k + 1) < x.toNat - (nm.size + k) := by omega
        have HMS := Lib.hid hms
        clear hdd hsz hms
        generalize nm ++ dotT k = cur at *
        go_wp2_with fail
        go_roundw
        case rel => exact ⟨k + 1, by omega, congrArg Value.string HNX.out, (by first | trivial | rfl)⟩
        case measure =>
          rw [HNX.out]
          show x.toNat - (nm ++ dotT (k + 1)).size < x.toNat - cur.size
          rw [HNZ.out, HSZ.out]
          exact HMS.out
      · have hkr : k = r := by omega
        have HE := Lib.hid (HEQ.out hkr)
        have hgo2 : ¬ (((nm ++ dotT k).size : Int) + (pt.size : Int) < x) := by omega
        have hj : (nm ++ dotT k).size + pt.size ≤ 9223372036854775807 := by omega
        have hj2 : (nm ++ dotT k ++ pt).size + (⟨#[10]⟩ : ByteArray).size ≤ 9223372036854775807 := by rw [ByteArray.size_append, hsz]; show nm.size + k + pt.size + 1 ≤ _; omega
        have HB2 := Lib.hid (HB1.out.alloc HB1.out.size (.cells #[.int .u8 10] 5))
        clear hdd hsz hkr HEQ
        generalize nm ++ dotT k = cur at *
        go_wp2_with fail
        go_ret
        exact ⟨ret_str (HE.out.trans HT.out.symm), HB2.out⟩
  · have hfit : fitA ⟨nm, mo⟩ x = false := decide_eq_false hd
    have HT : Hid (lineT ⟨nm, mo⟩ x = nilT) := by unfold Hid lineT; rw [hfit]; rfl
    have hD := HD.out
    have hgo : x < (nm.size : Int) + (pt.size : Int) + 2 := by omega
    generalize lineT ⟨nm, mo⟩ x = LT at *
    clear hD hd hfit HD HLL
    go_enter Tryd.func26, Tryd.ntmps26
    go_wp2_with fail
    refine HMT.out.mono ?_
    rintro e w1 ⟨rfl, hb1⟩
    have HB1 := Lib.hid hb1
    clear hb1
    go_wp2_with fail
    go_ret
    exact ⟨ret_str HT.out.symm, HB1.out⟩
theorem lineT_nil {r : Am} {x : Int} (h : fitA r x = false) : lineT r x = nilT := by
  unfold lineT
  rw [h]
  rfl
theorem lineT_some {r : Am} {x : Int} (h : fitA r x = true) : ((lineT r x).toList == []) = false := by
  have h1 := lineL_len h
  have h2 : 2 ≤ dotsA r x := of_decide_eq_true h
  have h3 : (lineT r x).toList = lineL r x := by rw [ByteArray.toList_eq]; exact lineT_list h
  rw [h3]
  unfold lineL
  cases h4 : (r.name.data.toList ++ List.replicate (dotsA r x).toNat 46 ++ printL r.mon ++ [10]) with
  | nil => simp at h4
  | cons c t => rfl
/-- The text of the first k lines. -/
def txtL (l : List Am) (x : Int) (k : Nat) : ByteArray := ⟨(linesL l x k).toArray⟩
theorem txtL_list (l : List Am) (x : Int) (k : Nat) : (txtL l x k).data.toList = linesL l x k := by simp [txtL]
theorem txtL_next {l : List Am} {x : Int} {k : Nat} (h : fitA (anth l k) x = true) : txtL l x k ++ lineT (anth l k) x = txtL l x (k + 1) := by
  refine ba_ext ?_
  rw [ba_append, txtL_list, txtL_list, lineT_list h]
  rfl
set_option maxRecDepth 100000 in
set_option maxHeartbeats 4000000 in
theorem sheetText_ref (a : Option Addr) (n cap : Nat) (l : List Am) (x : Int) (w : World) (hc : CameA w a l) (hf : NamesFit l) (hn : l.length = n) (hm : n ≤ maxLen) :
    Calls Tryd.prog 9 #[.slice a n cap, .int .i64 x] w fun e w' => e = .returned (.tuple #[.string (shT l n x), .int .i64 (shE l n x)]) ∧ Below w.heap.size w w' := by
  have HC := Lib.hid hc
  have HN := Lib.hid hn
  have HO := Lib.hid (fun h0 => hc.open hn h0)
  have HF : Hid (∀ j, j < n → (anth l j).name.size ≤ 9223372036854775807) := fun j hj => by
    have := hf j (by omega)
    unfold maxLen at this
    omega
  have HAT : Hid (∀ (s : ByteArray) (w : World), CameA w a l → Calls Tryd.prog 25 #[.slice a n cap, .string s] w fun e w' => e = .returned (.int .i64 (optI (firstN (nmA l) n s))) ∧ Below w.heap.size w w') := fun s w hc => amountAt_ref a n cap l s w hc HN.out hm
  have hm' : n ≤ 9223372036854775807 := by unfold maxLen at hm; omega
  clear hc hf hn hm
  cases hw : widB x
  · obtain ⟨hE, hT⟩ := shE_bad (l := l) (n := n) (x := x) (by rw [chkE_wid hw]; decide)
    rw [chkE_wid hw] at hE
    have HE := Lib.hid hE
    have HTT := Lib.hid hT
    clear hE hT
    have hx : ¬ (20 ≤ x ∧ x ≤ 60) := of_decide_eq_false hw
    by_cases h20 : x < 20
    · go_enter Tryd.func9, Tryd.ntmps9
      go_wp2_with fail
      go_ret2
      exact ⟨ret_se HTT.out.symm HE.out.symm, Below.refl _ _⟩
    · have h60 : 60 < x := by omega
      go_enter Tryd.func9, Tryd.ntmps9
      go_wp2_with fail
      go_ret2
      exact ⟨ret_se HTT.out.symm HE.out.symm, Below.refl _ _⟩
  · have hx : 20 ≤ x ∧ x ≤ 60 := of_decide_eq_true hw
    obtain ⟨h20, h60⟩ := hx
    have HW := Lib.hid hw
    clear hw
    by_cases h30 : 30 < n
    · have h30' : (30 : Int) < (n : Int) := by omega
      obtain ⟨hE, hT⟩ := shE_bad (l := l) (n := n) (x := x) (by rw [chkE_many HW.out h30]; decide)
      rw [chkE_many HW.out h30] at hE
      have HE := Lib.hid hE
      have HTT := Lib.hid hT
      clear hE hT
      go_enter Tryd.func9, Tryd.ntmps9
      go_wp2_with fail
      go_ret2
      exact ⟨ret_se HTT.out.symm HE.out.symm, Below.refl _ _⟩
    · have h30' : ¬ ((30 : Int) < (n : Int)) := by omega
      go_enter Tryd.func9, Tryd.ntmps9
      go_wp2_with fail
      go_loopw [6, 7, 8] (fun s t i wr => ∃ k : Nat, k ≤ n ∧ s = .int .i64 (sumA l k) ∧ t = .bool (twB (nmA l) k) ∧ i = .int .i64 k ∧ (∀ j, j < k → wrA (anth l j) = 0) ∧ Below w.heap.size w wr) (fun _ _ i _ => n - (intOf i).toNat)
      case atStart => exact ⟨0, Nat.zero_le _, rfl, rfl, rfl, fun j hj => by omega, Below.refl _ _⟩
      case round =>
        obtain ⟨k, hk, rfl, rfl, rfl, hall, hb⟩ := hrel
        have HA := Lib.hid hall
        have HB := Lib.hid hb
        clear hall hb
        by_cases hlt : k < n
        · have hlt' : (k : Int) < (n : Int) := by omega
          obtain ⟨b, off, rfl, hcell⟩ := HO.out (by omega)
          obtain ⟨x0, x1⟩ := hcell wr HB.out k hlt
          have HFK := Lib.hid (HF.out k hlt)
          have HEA : Hid (wrA (anth l k) ≠ 0 → shE l n x = wrA (anth l k) ∧ shT l n x = nilT) := fun h => by
            have e := chkE_at (l := l) (n := n) (k := k) (x := x) HW.out h30 HA.out h hlt
            have := shE_bad (l := l) (n := n) (x := x) (by rw [e]; exact h)
            rw [e] at this
            exact this
          have HNX : Hid (wrA (anth l k) = 0 → ∀ j, j < k + 1 → wrA (anth l j) = 0) := fun h j hj => by
            by_cases e : j = k
            · subst e; exact h
            · exact HA.out j (by omega)
          have HW1 := Lib.hid (@wrA_nam (anth l k))
          have HW2 := Lib.hid (@wrA_sum (anth l k))
          have HW3 := Lib.hid (@wrA_mon (anth l k))
          have HW4 := Lib.hid (@wrA_ok (anth l k))
          have HTN : Hid (twB (nmA l) (k + 1) = (twB (nmA l) k || (lastN (nmA l) k (anth l k).name).isSome)) := rfl
          have HAI : Hid (decide (optI (firstN (nmA l) n (anth l k).name) < (k : Int)) = (lastN (nmA l) k (anth l k).name).isSome) := ahead_iff (f := nmA l) hlt
          have HSN : Hid (sumA l (k + 1) = sumA l k + (anth l k).mon) := rfl
          obtain ⟨s0, s1⟩ := sumA_bd (l := l) (k := k) fun j hj => (wrA_zero (HA.out j hj)).2.2
          have HCW := Lib.hid (HC.out.below HB.out)
          have HBA := Lib.hid hcell
          clear hcell
          generalize wrA (anth l k) = wk at *
          generalize hnm : (anth l k).name = nm at *
          generalize hmo : (anth l k).mon = mo at *
          have HNM := Lib.hid hnm
          have HMO := Lib.hid hmo
          clear hnm hmo
          go_wp2_with fail
          refine (isName_ref nm _ HFK.out).mono ?_
          intro e w1 hs
          obtain ⟨rfl, hb1⟩ := says_bool hs
          have HB1 := Lib.hid (HB.out.trans (hb1.mono HB.out.size))
          obtain ⟨y0, y1⟩ := HBA.out w1 HB1.out k hlt
          rw [HNM.out] at y0
          rw [HMO.out] at y1
          have HCW1 := Lib.hid (HCW.out.below hb1)
          clear hs hb1 x0 x1
          cases hnb : namB nm
          · obtain ⟨hE, hT⟩ := HEA.out (by rw [HW1.out hnb]; decide)
            rw [HW1.out hnb] at hE
            have HE := Lib.hid hE
            have HTT := Lib.hid hT
            clear hnb hE hT
            go_wp2_with fail
            go_ret2
            exact ⟨ret_se HTT.out.symm HE.out.symm, HB1.out⟩
          · cases hsb : (nm.toList == [115, 117, 109])
            · cases hmb : monB mo
              · obtain ⟨hE, hT⟩ := HEA.out (by rw [HW3.out hnb hsb hmb]; decide)
                rw [HW3.out hnb hsb hmb] at hE
                have HE := Lib.hid hE
                have HTT := Lib.hid hT
                clear hnb hE hT
                go_wp2_with (go_at_call 24; refine (isMoney_ref _ _).mono ?_; rintro e w' ⟨rfl, h'⟩; subst w'; rw [hmb])
                go_ret2
                exact ⟨ret_se HTT.out.symm HE.out.symm, HB1.out⟩
              · have HNX2 := Lib.hid (HNX.out (HW4.out hnb hsb hmb))
                have hmo2 : -1000000000000 ≤ mo ∧ mo ≤ 1000000000000 := of_decide_eq_true hmb
                obtain ⟨m0, m1⟩ := hmo2
                generalize sumA l k = sk at *
                clear hnb
                cases htw : twB (nmA l) k
                · rw [htw, Bool.false_or] at HTN
                  cases hla : (lastN (nmA l) k nm).isSome
                  · rw [hla] at HAI HTN
                    have hlo : ¬ optI (firstN (nmA l) n nm) < (k : Int) := of_decide_eq_false HAI.out
                    clear htw hla
                    go_wp2_with (first | (go_at_call 24; refine (isMoney_ref _ _).mono ?_; rintro e w' ⟨rfl, h'⟩; subst w'; rw [hmb]))
                    refine (HAT.out nm _ HCW1.out).mono ?_
                    rintro e w2 ⟨rfl, hb2⟩
                    have HB2 := Lib.hid (HB1.out.trans (hb2.mono HB1.out.size))
                    clear hb2
                    go_wp2_with fail
                    go_roundw
                    case rel => exact ⟨k + 1, by omega, by rw [HSN.out], (by first | exact congrArg Value.bool HTN.out.symm | exact congrArg Value.bool (HAI.out.trans HTN.out.symm)), by go_num, HNX2.out, HB2.out⟩
                    case measure => simp [intOf]; omega
                  · rw [hla] at HAI HTN
                    have hlo : optI (firstN (nmA l) n nm) < (k : Int) := of_decide_eq_true HAI.out
                    clear htw hla
                    go_wp2_with (first | (go_at_call 24; refine (isMoney_ref _ _).mono ?_; rintro e w' ⟨rfl, h'⟩; subst w'; rw [hmb]))
                    refine (HAT.out nm _ HCW1.out).mono ?_
                    rintro e w2 ⟨rfl, hb2⟩
                    have HB2 := Lib.hid (HB1.out.trans (hb2.mono HB1.out.size))
                    clear hb2
                    go_wp2_with fail
                    go_roundw
                    case rel => exact ⟨k + 1, by omega, by rw [HSN.out], (by first | exact congrArg Value.bool HTN.out.symm | exact congrArg Value.bool (HAI.out.trans HTN.out.symm)), by go_num, HNX2.out, HB2.out⟩
                    case measure => simp [intOf]; omega
                · rw [htw, Bool.true_or] at HTN
                  clear htw
                  go_wp2_with (first | (go_at_call 24; refine (isMoney_ref _ _).mono ?_; rintro e w' ⟨rfl, h'⟩; subst w'; rw [hmb]))
                  go_roundw
                  case rel => exact ⟨k + 1, by omega, by rw [HSN.out], by rw [HTN.out], by go_num, HNX2.out, HB1.out⟩
                  case measure => simp [intOf]; omega
            · obtain ⟨hE, hT⟩ := HEA.out (by rw [HW2.out hsb]; decide)
              rw [HW2.out hsb] at hE
              have HE := Lib.hid hE
              have HTT := Lib.hid hT
              clear hnb hE hT
              go_wp2_with fail
              go_ret2
              exact ⟨ret_se HTT.out.symm HE.out.symm, HB1.out⟩
        · obtain rfl : n = k := by omega
          have HER := Lib.hid (chkE_rest (l := l) (x := x) HW.out h30 HA.out)
          cases htw : twB (nmA l) n
          · rw [htw] at HER
            cases hmb : monB (sumA l n)
            · rw [hmb] at HER
              obtain ⟨hE, hT⟩ := shE_bad (l := l) (n := n) (x := x) (by rw [HER.out]; decide)
              rw [HER.out] at hE
              have HE := Lib.hid hE
              have HTT := Lib.hid hT
              clear hE hT htw
              go_wp2_with (first | (go_at_call 24; refine (isMoney_ref _ _).mono ?_; rintro e w' ⟨rfl, h'⟩; subst w'; rw [hmb]))
              go_ret2
              exact ⟨ret_se HTT.out.symm (by rw [HE.out]; rfl), HB.out⟩
            · rw [hmb] at HER
              have HZ : Hid (chkE l n x = 0) := HER.out
              have HM : Hid (∀ j, j < n + 1 → monB (anth (withSum l n) j).mon = true ∧ (anth (withSum l n) j).name.size ≤ 8) := fun j hj => by
                by_cases e : j < n
                · rw [withSum_at (by rw [HN.out]; exact e)]
                  exact ⟨(wrA_zero (HA.out j e)).2.2, namB_size (wrA_zero (HA.out j e)).1⟩
                · obtain rfl : j = n := by omega
                  rw [withSum_end HN.out]
                  exact ⟨hmb, by show (3 : Nat) ≤ 8; omega⟩
              have HAN : Hid (∀ j, j < n → anth (withSum l n) j = anth l j) := fun j hj => withSum_at (by rw [HN.out]; exact hj)
              have HAE : Hid (anth (withSum l n) n = ⟨sumT, sumA l n⟩) := withSum_end HN.out
              have HLONG : Hid (∀ k, k < n + 1 → fitA (anth (withSum l n) k) x = false → shE l n x = 2 ∧ shT l n x = nilT) := fun k hk h => shE_long HZ.out (fits_not hk h)
              have HOK : Hid ((∀ j, j < n + 1 → fitA (anth (withSum l n) j) x = true) → shE l n x = 0 ∧ shT l n x = txtL (withSum l n) x (n + 1)) := fun h => shE_ok HZ.out (fits_of h)
              have HCW := Lib.hid (HC.out.below HB.out)
              clear htw HA
              go_wp2_with (first | (go_at_call 24; refine (isMoney_ref _ _).mono ?_; rintro e w' ⟨rfl, h'⟩; subst w'; rw [hmb]))
              clear hmb
              generalize sumA l n = tot at *
              generalize withSum l n = L at *
              have HW0 := Lib.hid HB.out
              generalize wr = wq at *
              go_loopw [9, 10] (fun s i wr => ∃ k : Nat, k ≤ n + 1 ∧ s = .string (txtL L x k) ∧ i = .int .i64 k ∧ (∀ j, j < k → fitA (anth L j) x = true) ∧ Below w.heap.size w wr) (fun _ i _ => n + 1 - (intOf i).toNat)
              case atStart => exact ⟨0, Nat.zero_le _, rfl, rfl, fun j hj => by omega, HW0.out⟩
              case round =>
                clear HB HW0
                obtain ⟨k, hk, rfl, rfl, hfk, hb⟩ := hrel
                have HFK := Lib.hid hfk
                have HB := Lib.hid hb
                clear hfk hb
                by_cases hlt : k < n + 1
                · have hle : (k : Int) ≤ (n : Int) := by omega
                  obtain ⟨hmk, hnk⟩ := HM.out k hlt
                  have HLG := Lib.hid (HLONG.out k hlt)
                  have HFN : Hid (fitA (anth L k) x = true → ∀ j, j < k + 1 → fitA (anth L j) x = true) := fun h j hj => by
                    by_cases e : j = k
                    · subst e; exact h
                    · exact HFK.out j (by omega)
                  have HNXT := Lib.hid (@txtL_next L x k)
                  have HLN : Hid ((txtL L x k).size ≤ 1900) := by
                    have h1 := linesL_len HFK.out
                    have h2 : (k : Int) * (x + 1) ≤ 31 * 61 := Int.mul_le_mul (by omega) (by omega) (by omega) (by omega)
                    unfold Hid
                    rw [size_toList, txtL_list]
                    omega
                  have HLS : Hid (fitA (anth L k) x = true → ((lineT (anth L k) x).toList == []) = false ∧ (lineT (anth L k) x).size ≤ 61) := fun h => by
                    refine ⟨lineT_some h, ?_⟩
                    have h1 := lineL_len h
                    rw [size_toList, lineT_list h]
                    omega
                  have HLNIL := Lib.hid (@lineT_nil (anth L k) x)
                  have HSL := Lib.hid (fun w => sheetLine_ref (anth L k).name (anth L k).mon x w hmk hnk h20 h60)
                  have HETA : Hid (lineT ⟨(anth L k).name, (anth L k).mon⟩ x = lineT (anth L k) x) := rfl
                  rw [HETA.out] at HSL
                  clear hmk hnk HETA
                  generalize lineT (anth L k) x = LT at *
                  generalize fitA (anth L k) x = fk at *
                  by_cases hkn : k < n
                  · have hltI : (k : Int) < (n : Int) := by omega
                    obtain ⟨b, off, rfl, hcell⟩ := HO.out (by omega)
                    obtain ⟨x0, x1⟩ := hcell (wr.alloc (.cells #[.string ⟨#[115, 117, 109]⟩, .int .i64 tot] 45)) (HB.out.alloc HB.out.size _) k hkn
                    rw [← HAN.out k hkn] at x0 x1
                    have HBW := Lib.hid (HB.out.alloc HB.out.size (.cells #[.string (anth L k).name, .int .i64 (anth L k).mon] 45))
                    clear hcell
                    generalize (anth L k).name = nm at *
                    generalize (anth L k).mon = mo at *
                    go_wp2_with fail
                    refine (HSL.out _).mono ?_
                    rintro e w2 ⟨rfl, hb2⟩
                    have HB2 := Lib.hid (HBW.out.trans (hb2.mono HBW.out.size))
                    clear hb2
                    cases fk
                    · obtain ⟨hE, hT⟩ := HLG.out rfl
                      have hnil := HLNIL.out rfl
                      have HE := Lib.hid hE
                      have HTT := Lib.hid hT
                      clear hE hT
                      rw [hnil, show nilT = ⟨#[]⟩ from rfl]
                      clear hnil HSL
                      go_wp2_with fail
                      go_ret2
                      exact ⟨ret_se HTT.out.symm HE.out.symm, HB2.out⟩
                    · obtain ⟨hne, hsz⟩ := HLS.out rfl
                      have hj : (txtL L x k).size + LT.size ≤ 9223372036854775807 := by have := HLN.out; omega
                      have HNX3 := Lib.hid (HNXT.out (by first | trivial | rfl))
                      have HFN3 := Lib.hid (HFN.out (by first | trivial | rfl))
                      have hne2 : LT.toList.isEmpty = false := by cases hq : LT.toList with
                        | nil => rw [hq] at hne; cases hne
                        | cons c t => rfl
                      clear hsz HSL HLG
                      generalize txtL L x k = tk at *
                      go_wp2_with fail
                      go_roundw
                      case rel => exact ⟨k + 1, by omega, congrArg Value.string HNX3.out, by go_num, HFN3.out, HB2.out⟩
                      case measure => simp [intOf]; omega
                  · have hltI : ¬ ((k : Int) < (n : Int)) := by omega
                    have hkn2 : k = n := by omega
                    have HBW := Lib.hid (HB.out.alloc HB.out.size (.cells #[.string ⟨#[115, 117, 109]⟩, .int .i64 tot] 45))
                    rw [hkn2, HAE.out] at HSL
                    dsimp only at HSL
                    rw [show sumT = ⟨#[115, 117, 109]⟩ from rfl] at HSL
                    clear hkn2
                    go_wp2_with fail
                    refine (HSL.out _).mono ?_
                    rintro e w2 ⟨rfl, hb2⟩
                    have HB2 := Lib.hid (HBW.out.trans (hb2.mono HBW.out.size))
                    clear hb2
                    cases fk
                    · obtain ⟨hE, hT⟩ := HLG.out rfl
                      have hnil := HLNIL.out rfl
                      have HE := Lib.hid hE
                      have HTT := Lib.hid hT
                      clear hE hT
                      rw [hnil, show nilT = ⟨#[]⟩ from rfl]
                      clear hnil HSL
                      go_wp2_with fail
                      go_ret2
                      exact ⟨ret_se HTT.out.symm HE.out.symm, HB2.out⟩
                    · obtain ⟨hne, hsz⟩ := HLS.out rfl
                      have hj : (txtL L x k).size + LT.size ≤ 9223372036854775807 := by have := HLN.out; omega
                      have HNX3 := Lib.hid (HNXT.out (by first | trivial | rfl))
                      have HFN3 := Lib.hid (HFN.out (by first | trivial | rfl))
                      have hne2 : LT.toList.isEmpty = false := by cases hq : LT.toList with
                        | nil => rw [hq] at hne; cases hne
                        | cons c t => rfl
                      clear hsz HSL HLG
                      generalize txtL L x k = tk at *
                      go_wp2_with fail
                      go_roundw
                      case rel => exact ⟨k + 1, by omega, congrArg Value.string HNX3.out, by go_num, HFN3.out, HB2.out⟩
                      case measure => simp [intOf]; omega
                · obtain rfl : k = n + 1 := by omega
                  have hle : ¬ ((n : Int) + 1 ≤ (n : Int)) := by omega
                  obtain ⟨hE, hT⟩ := HOK.out HFK.out
                  have HE := Lib.hid hE
                  have HTT := Lib.hid hT
                  clear hE hT
                  go_wp2_with fail
                  go_ret2
                  exact ⟨ret_se HTT.out.symm HE.out.symm, HB.out⟩
          · rw [htw] at HER
            obtain ⟨hE, hT⟩ := shE_bad (l := l) (n := n) (x := x) (by rw [HER.out]; simp)
            rw [HER.out] at hE
            have HE := Lib.hid hE
            have HTT := Lib.hid hT
            clear hE hT htw
            go_wp2_with fail
            go_ret2
            exact ⟨ret_se HTT.out.symm (by rw [HE.out]; rfl), HB.out⟩
end Go.Proofs.YtmchanddfodhaaaDoor
