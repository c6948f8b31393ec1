/-
  Promise T3: the walk of First.
-/
import Derived.Test.YtlaamfagjpdhgaaLvHad
namespace Go.Proofs.Ytlaamfagjpdhgaa
open Go.RowKit

/-- The last of days: of h, of from, of the first k uses. -/
def dayU (f h : Int) (l : List Us) : Nat → Int
  | 0 => if f < h then h else f
  | k + 1 => if dayU f h l k < (unth l k).day then (unth l k).day else dayU f h l k
theorem dayU_ge {f h : Int} {l : List Us} : ∀ k, f ≤ dayU f h l k ∧ h ≤ dayU f h l k ∧ ∀ j, j < k → (unth l j).day ≤ dayU f h l k
  | 0 => by
    unfold dayU
    refine ⟨?_, ?_, fun j hj => by omega⟩ <;> split <;> omega
  | k + 1 => by
    obtain ⟨h1, h2, h3⟩ := dayU_ge (f := f) (h := h) (l := l) k
    unfold dayU
    refine ⟨?_, ?_, fun j hj => ?_⟩
    · split <;> omega
    · split <;> omega
    · by_cases e : j = k
      · subst e; split <;> omega
      · have := h3 j (by omega)
        split <;> omega
theorem dayU_le {f h d : Int} {l : List Us} (hf : f ≤ d) (hh : h ≤ d) : ∀ k, (∀ j, j < k → (unth l j).day ≤ d) → dayU f h l k ≤ d
  | 0, _ => by unfold dayU; split <;> omega
  | k + 1, q => by
    have := dayU_le (l := l) hf hh k (fun j hj => q j (by omega))
    have := q k (by omega)
    unfold dayU
    split <;> omega
/-- What is had when k more months have begun behind the day from which on is asked. -/
def frst (f h r c : Int) (l : List Us) (k : Nat) : Int := pas r c (nm (dayU f h l l.length)) k (rch r c (dayU f h l l.length) (stN h r c l)).2
def frstD (f h : Int) (l : List Us) (k : Nat) : Int := if k = 0 then dayU f h l l.length else fm ((nm (dayU f h l l.length) + k - 1 : Nat) : Int)
/-- What First answers. -/
def FirstIs (h r c : Int) (l : List Us) (f n v er : Int) : Prop :=
  (¬ (LvOk h r c l ∧ dayB f = true ∧ usedB n = true) ∧ er ≠ 0) ∨ (LvOk h r c l ∧ dayB f = true ∧ usedB n = true ∧ ((er = 0 ∧ ∃ k, nm (dayU f h l l.length) + k ≤ 2400 ∧ v = frstD f h l k ∧ n ≤ frst f h r c l k ∧ ∀ j, j < k → frst f h r c l j < n) ∨ (er = 5 ∧ ∀ j, nm (dayU f h l l.length) + j ≤ 2400 → frst f h r c l j < n)))
def FirstRet (h r c : Int) (l : List Us) (f n : Int) (e : Ending) : Prop := ∃ v er : Int, e = .returned (.tuple #[.int .i64 v, .int .i64 er]) ∧ FirstIs h r c l f n v er
theorem FirstRet.no {h r c : Int} {l : List Us} {f n v er : Int} (h0 : er ≠ 0) (hk : ¬ (LvOk h r c l ∧ dayB f = true ∧ usedB n = true)) : FirstRet h r c l f n (.returned (.tuple #[.int .i64 v, .int .i64 er])) := ⟨v, er, rfl, .inl ⟨hk, h0⟩⟩
set_option maxRecDepth 100000 in
set_option maxHeartbeats 4000000 in
theorem First_any (h r c : Int) (a : Option Addr) (n cap : Nat) (l : List Us) (f q : Int) (w : World) (hc : CameU w a l) (hn : l.length = n) (hm : n ≤ maxLen) :
    Calls Try.prog 36 #[.agg #[.int .i64 h, .int .i64 r, .int .i64 c], .slice a n cap, .int .i64 f, .int .i64 q] w fun e w' => FirstRet h r c l f q e ∧ Below w.heap.size w w' := by
  have hm' : n ≤ 9223372036854775807 := by unfold maxLen at hm; omega
  have HC := Lib.hid hc
  have HO := Lib.hid (fun h0 => hc.open hn h0)
  have HN := Lib.hid hn
  have HM := Lib.hid hm
  clear hc hn hm
  have HB0 := Lib.hid (lbelow_box w (.cells #[.int .i64 h, .int .i64 r, .int .i64 c] 55))
  have HL0 := Lib.hid (LBox.made w h r c 55)
  have hs0 : (w.alloc (.cells #[.int .i64 h, .int .i64 r, .int .i64 c] 55)).heap.size = w.heap.size + 1 := by simp
  go_enter Try.func36, Try.ntmps36
  go_wp2_with (first | (go_at_call 37; refine (Check_any h r c a n cap l _ (HC.out.below HB0.out) HN.out HM.out).mono ?_; rintro e w1 ⟨⟨er, rfl, hiff⟩, hb1⟩; refine Hid.out ?_))
  have HIFF := Lib.hid hiff
  have HB1 := Lib.hid (HB0.out.trans (hb1.mono (by simp)))
  have HL1 := Lib.hid (HL0.out.below hb1 (by simp))
  have hs1 : w.heap.size + 1 ≤ w1.heap.size := (by have := hb1.size; rw [hs0] at this; exact this)
  clear hb1 hiff
  refine Lib.hid ?_
  by_cases her : er = 0
  · have HOK := Lib.hid (HIFF.out.1 her)
    subst her
    obtain ⟨hh0, hh1, hr0, hr1, hc0, hc1⟩ := lvB_iff.1 HOK.out.lv
    cases hdf : dayB f
    · have HNO : Hid (¬ (LvOk h r c l ∧ dayB f = true ∧ usedB q = true)) := fun z => by rw [hdf] at z; cases z.2.1
      go_wp2_with (first | (go_at_call 38; refine (isDay_any _ _).mono ?_; rintro e w' ⟨rfl, h'⟩; subst w'; rw [hdf]))
      go_ret2
      exact ⟨FirstRet.no (by decide) HNO.out, HB1.out⟩
    · cases hus : usedB q
      · have HNO : Hid (¬ (LvOk h r c l ∧ dayB f = true ∧ usedB q = true)) := fun z => by rw [hus] at z; cases z.2.2
        go_wp2_with (first | (go_at_call 38; refine (isDay_any _ _).mono ?_; rintro e w' ⟨rfl, h'⟩; subst w'; rw [hdf]) | (go_at_call 69; refine (isUsed_any q _).mono ?_; rintro e w4 ⟨rfl, h4⟩; subst w4; rw [hus]))
        go_ret2
        exact ⟨FirstRet.no (by decide) HNO.out, HB1.out⟩
      · have hf01 : 0 ≤ f ∧ f ≤ 73048 := of_decide_eq_true hdf
        obtain ⟨hf0, hf1⟩ := hf01
        obtain ⟨hq0, hq1⟩ := usedB_iff.1 hus
        have HARG : Hid (LvOk h r c l ∧ dayB f = true ∧ usedB q = true) := ⟨HOK.out, hdf, hus⟩
        obtain ⟨k0, k1, k2⟩ := HL1.out
        obtain ⟨N, hN⟩ : ∃ N, nm h = N := ⟨_, rfl⟩
        obtain ⟨Y, hY⟩ : ∃ Y : Int, 2000 + (N : Int) / 12 = Y := ⟨_, rfl⟩
        obtain ⟨Mo, hMo⟩ : ∃ Mo : Int, (N : Int) % 12 + 1 = Mo := ⟨_, rfl⟩
        obtain ⟨Du, hDu⟩ : ∃ Du : Int, fm (N : Int) = Du := ⟨_, rfl⟩
        have HBEG : Hid (∀ w0 : World, Calls Try.prog 64 #[.agg #[.int .i64 h, .int .i64 r, .int .i64 c]] w0 fun e w' => e = .returned (.agg #[.int .i64 h, .int .i64 r, .int .i64 c, .int .i64 Y, .int .i64 Mo, .int .i64 1, .int .i64 Du, .int .i64 0, .int .i64 0]) ∧ Below w0.heap.size w0 w') := by
          intro w0
          have := begun_any h r c w0 (decide_eq_true ⟨hh0, hh1⟩)
          unfold accV at this
          rw [hN, hY, hMo, hDu] at this
          exact this
        have HMK := Lib.hid (fun w0 : World => accB_made w0 h r c hY hMo hDu (by rw [← hN]; exact nm_le h) 89)
        have HN0 : Hid (stN h r c (l.take 0) = (N, 0)) := by unfold Hid stN; rw [← hN]; rfl
        clear hN hY hMo hDu
        obtain ⟨D0, hD0⟩ : ∃ D0, dayU f h l 0 = D0 := ⟨_, rfl⟩
        have hmx : (if f < h then h else f) = D0 := hD0
        have HD0 := Lib.hid hD0
        clear hD0
        go_wp2_with (first
          | (go_at_call 38; refine (isDay_any _ _).mono ?_; rintro e w' ⟨rfl, h'⟩; subst w'; rw [hdf])
          | (go_at_call 69; refine (isUsed_any q _).mono ?_; rintro e w4 ⟨rfl, h4⟩; subst w4; rw [hus])
          | (go_at_call 64; refine (HBEG.out _).mono ?_; rintro e w5 ⟨rfl, hb5⟩; refine Hid.out ?_))
        have HA5 := Lib.hid (HMK.out w5)
        have HB5 := Lib.hid ((HB1.out.trans (hb5.mono HB1.out.size)).alloc (by have := hb5.size; omega) (.cells #[.int .i64 h, .int .i64 r, .int .i64 c, .int .i64 Y, .int .i64 Mo, .int .i64 1, .int .i64 Du, .int .i64 0, .int .i64 0] 89))
        have hs5 : w.heap.size + 1 ≤ w5.heap.size := by have := hb5.size; omega
        clear hb5 k0 k1 k2 HB1 HL1 HBEG HMK hs1 hdf hus hmx
        refine Lib.hid ?_
        go_wp2_with fail
        go_loopw [11, 37] (fun dv i wv => ∃ j : Nat, j ≤ n ∧ dv = .int .i64 (dayU f h l j) ∧ i = .int .i64 j ∧ AccB wv w5.heap.size h r c (stN h r c (l.take j)) ∧ Below w.heap.size w wv) (fun _ i _ => n - (intOf i).toNat)
        case atStart =>
          refine ⟨0, Nat.zero_le _, by rw [HD0.out], rfl, ?_, HB5.out⟩
          rw [HN0.out]; exact HA5.out
        case round =>
          clear HA5 HB5 HN0 HD0
          obtain ⟨j, hj, rfl, rfl, hac, hb⟩ := hrel
          have HAC := Lib.hid hac
          have HB := Lib.hid hb
          have hgl := hac.lt
          clear hac hb
          by_cases hjl : j < n
          · have hjl' : (j : Int) < (n : Int) := by omega
            obtain ⟨b, off, rfl, hcell⟩ := HO.out (by omega)
            obtain ⟨x0, x1⟩ := hcell wr HB.out j hjl
            clear hcell
            obtain ⟨_, hu1, _, hu2, hu3⟩ := useB_iff.1 (HOK.out.use j (by rw [HN.out]; exact hjl))
            have HSS : Hid (stN h r c (l.take (j + 1)) = uss r c (stN h r c (l.take j)) (unth l j)) := stN_step (by rw [HN.out]; exact hjl)
            have HS0 : Hid (0 ≤ (stN h r c (l.take j)).2) := HOK.out.nn j (by rw [HN.out]; omega)
            have HETA : Hid ((⟨(unth l j).day, (unth l j).days⟩ : Us) = unth l j) := rfl
            have HDU : Hid (dayU f h l (j + 1) = if dayU f h l j < (unth l j).day then (unth l j).day else dayU f h l j) := rfl
            obtain ⟨dy, hdy⟩ : ∃ dy, (unth l j).day = dy := ⟨_, rfl⟩
            obtain ⟨ds, hds⟩ : ∃ ds, (unth l j).days = ds := ⟨_, rfl⟩
            obtain ⟨du, hdu⟩ : ∃ du, dayU f h l j = du := ⟨_, rfl⟩
            rw [hdy] at x0 HETA hu1 HDU
            rw [hds] at x1 HETA hu2 hu3
            rw [hdu] at HDU ⊢
            rw [← HETA.out] at HSS
            clear hdy hds hdu
            have HBU := Lib.hid (lbelow_box wr (.cells #[.int .i64 dy, .int .i64 ds] 64))
            have HAC2 := Lib.hid (HAC.out.below HBU.out hgl)
            have HB2 := Lib.hid (HB.out.trans (HBU.out.mono HB.out.size))
            obtain ⟨s0, hs0'⟩ : ∃ s0, stN h r c (l.take j) = s0 := ⟨_, rfl⟩
            rw [hs0'] at HAC2 HSS HS0
            clear hs0'
            go_wp2_with (first | (go_at_call 65; refine (use_any w5.heap.size h r c s0 dy ds _ (by exact HAC2.out) hr0 hr1 hc0 hc1 hu1 HS0.out hu2 hu3).mono ?_; rintro e w6 ⟨rfl, hA6, hg6⟩; refine Hid.out ?_))
            rw [← HSS.out] at hA6
            have HA6 := Lib.hid hA6
            have HB6 := Lib.hid (HB2.out.grown hg6 (by simp; omega) (fun q hq => by cases hq; omega))
            have u0 : w6.cell? ⟨wr.heap.size, 0, none⟩ = some (.int .i64 dy) := hg6.cell (a := ⟨wr.heap.size, 0, none⟩) (by simp) (by simp; omega)
            clear hA6 hg6
            refine Lib.hid ?_
            by_cases hdd : du < dy
            · have HD1 : Hid (dayU f h l (j + 1) = dy) := by unfold Hid; rw [HDU.out, if_pos hdd]
              go_wp2_with fail
              go_roundw
              case rel => exact ⟨j + 1, by omega, by rw [HD1.out], by go_num, HA6.out, HB6.out⟩
              case measure => simp [intOf]; omega
            · have hdd' : decide (du < dy) = false := decide_eq_false hdd
              have HD1 : Hid (dayU f h l (j + 1) = du) := by unfold Hid; rw [HDU.out, if_neg hdd]
              go_wp2_with fail
              go_roundw
              case rel => exact ⟨j + 1, by omega, by rw [HD1.out], by go_num, HA6.out, HB6.out⟩
              case measure => simp [intOf]; omega
          · have hjn : j = n := by omega
            subst hjn
            have hta : l.take j = l := List.take_of_length_le (by rw [HN.out]; exact Nat.le_refl _)
            rw [hta] at HAC
            have HS0 : Hid (0 ≤ (stN h r c l).2) := by have := HOK.out.nn j (by rw [HN.out]; exact Nat.le_refl _); rw [hta] at this; exact this
            have HUD : Hid (∀ i, i < j → (unth l i).day ≤ 73048) := fun i hi => (useB_iff.1 (HOK.out.use i (by rw [HN.out]; exact hi))).2.1
            have hdle : dayU f h l j ≤ 73048 := dayU_le hf1 hh1 j HUD.out
            have hdge := dayU_ge (f := f) (h := h) (l := l) j
            have HS1 : Hid ((stN h r c l).1 ≤ nm (dayU f h l j)) := by
              have := stN_1 (h := h) (r := r) (c := c) (l := l) hdge.2.1 j (by rw [HN.out]; exact Nat.le_refl _) hdge.2.2
              rw [hta] at this
              exact this
            have HF0 : Hid (frst f h r c l 0 = (rch r c (dayU f h l j) (stN h r c l)).2) := by unfold Hid frst; rw [HN.out]; rfl
            have HFS : Hid (∀ k, frst f h r c l (k + 1) = one r c (nm (dayU f h l j) + k) (frst f h r c l k)) := fun k => by unfold frst; rw [HN.out]; exact pas_snoc r c k _ _
            have HFD : Hid (∀ k, frstD f h l k = if k = 0 then dayU f h l j else fm ((nm (dayU f h l j) + k - 1 : Nat) : Int)) := fun k => by unfold frstD; rw [HN.out]
            have HIS : Hid (∀ v er, ((er = 0 ∧ ∃ k, nm (dayU f h l j) + k ≤ 2400 ∧ v = frstD f h l k ∧ q ≤ frst f h r c l k ∧ ∀ i, i < k → frst f h r c l i < q) ∨ (er = 5 ∧ ∀ i, nm (dayU f h l j) + i ≤ 2400 → frst f h r c l i < q)) → FirstIs h r c l f q v er) := fun v er z => by
              refine .inr ⟨HARG.out.1, HARG.out.2.1, HARG.out.2.2, ?_⟩
              rw [HN.out]
              exact z
            have HNL := Lib.hid (nm_le (dayU f h l j))
            have HR1 : Hid ((rch r c (dayU f h l j) (stN h r c l)).1 = nm (dayU f h l j)) := rch_1 HS1.out
            have HRN : Hid (0 ≤ (rch r c (dayU f h l j) (stN h r c l)).2) := rch_nn hr0 hc0 HS0.out
            clear hdge hta HS1 HUD
            obtain ⟨D, hD⟩ : ∃ D, dayU f h l j = D := ⟨_, rfl⟩
            rw [hD] at HF0 HFS HFD HIS HNL HR1 HRN hdle ⊢
            clear hD
            obtain ⟨s0, hs0'⟩ : ∃ s0, stN h r c l = s0 := ⟨_, rfl⟩
            rw [hs0'] at HAC HS0 HF0 HR1 HRN
            clear hs0'
            obtain ⟨M0, hM0⟩ : ∃ M0, nm D = M0 := ⟨_, rfl⟩
            rw [hM0] at HFS HFD HIS HNL HR1
            clear hM0
            obtain ⟨lo, hA7, hM7, hs7, hl7, hl8⟩ := HAC.out
            have HA7 := Lib.hid hA7
            have HS7 := Lib.hid hs7
            have HL8 := Lib.hid hl8
            clear hA7 hs7 hl8
            go_wp2_with (first | (go_at_call 66; refine (reach_any w5.heap.size h r c s0.1 s0.2 lo D _ (by exact HA7.out) hM7 hr0 hr1 hc0 hc1 hdle HS0.out HS7.out hl7 HL8.out).mono ?_; rintro e w6 ⟨rfl, hA6, hg6⟩; refine Hid.out ?_))
            have HA6 : Hid (AccB w6 w5.heap.size h r c (M0 + 0, frst f h r c l 0)) := by
              unfold Hid
              rw [HF0.out, Nat.add_zero, ← HR1.out]
              exact hA6
            have HB6 := Lib.hid (HB.out.grown hg6 HB.out.size (fun q hq => by cases hq; omega))
            have HP0 : Hid (0 ≤ frst f h r c l 0) := by unfold Hid; rw [HF0.out]; exact HRN.out
            have HD00 : Hid (frstD f h l 0 = D) := by unfold Hid; rw [HFD.out]; rfl
            clear hA6 hg6 HB HAC HA7 HS7 HL8 HF0 HR1 HRN HS0
            refine Lib.hid ?_
            generalize wr = wq at *
            go_wp2_with fail
            go_loopw [11] (fun dv wv => ∃ k : Nat, M0 + k ≤ 2400 ∧ dv = .int .i64 (frstD f h l k) ∧ AccB wv w5.heap.size h r c (M0 + k, frst f h r c l k) ∧ 0 ≤ frst f h r c l k ∧ (∀ i, i < k → frst f h r c l i < q) ∧ Below w.heap.size w wv ∧ w5.heap.size < wv.heap.size) (fun _ wv => dueOf wv w5.heap.size)
            case atStart => exact ⟨0, by have := HNL.out; omega, by rw [HD00.out], HA6.out, HP0.out, fun i hi => by omega, HB6.out, HA6.out.lt⟩
            case round =>
              clear HA6 HB6 HP0 HD00
              obtain ⟨k, hk, rfl, hac, hnn, hall, hb, hgl⟩ := hrel
              have HB := Lib.hid hb
              have HALL := Lib.hid hall
              have HFK := Lib.hid (HFS.out k)
              have HFDK := Lib.hid (HFD.out (k + 1))
              obtain ⟨lo2, hA8, hM8, hs8, hl9, hl10⟩ := hac
              obtain ⟨t, ht⟩ : ∃ t, frst f h r c l k = t := ⟨_, rfl⟩
              obtain ⟨du, hdu⟩ : ∃ du, fm ((M0 + k : Nat) : Int) = du := ⟨_, rfl⟩
              obtain ⟨dv, hdv⟩ : ∃ dv, frstD f h l k = dv := ⟨_, rfl⟩
              have HT := Lib.hid ht
              have HDU := Lib.hid hdu
              have HDV := Lib.hid hdv
              rw [ht] at hA8 hs8 hnn HFK
              rw [hdv]
              have HA8 := Lib.hid hA8
              have HS8 := Lib.hid hs8
              have HL10 := Lib.hid hl10
              have hA9 : Acc wr w5.heap.size h r c (M0 + k) (fm ((M0 + k : Nat) : Int)) t lo2 := hA8
              rw [hdu] at hA9
              have z6 := (Own.ac hA9).1.2.2.2.2.2.2.1
              have z7 := (Own.ac hA9).1.2.2.2.2.2.2.2.1
              have HZ6 := Lib.hid z6
              clear hA8 hs8 hl10 hA9 hb hall ht hdu hdv
              by_cases hlt : t < q
              · by_cases hend : M0 + k = 2400
                · have hdE : dayB du = false := by
                    rw [← HDU.out, hend]
                    unfold dayB
                    exact decide_eq_false (by have : fm ((2400 : Nat) : Int) = 73049 := fm_end; omega)
                  have HRET : Hid (FirstIs h r c l f q 0 5) := HIS.out 0 5 (.inr ⟨rfl, fun i hi => by
                    by_cases e : i = k
                    · subst e; rw [HT.out]; exact hlt
                    · exact HALL.out i (by omega)⟩)
                  clear hend
                  go_wp2_with (first | (go_at_call 38; refine (isDay_any _ _).mono ?_; rintro e w' ⟨rfl, h'⟩; subst w'; rw [hdE]))
                  go_ret2
                  exact ⟨⟨0, 5, rfl, HRET.out⟩, HB.out⟩
                · have hk2 : M0 + k < 2400 := by omega
                  have hdb := fm_bd (M := M0 + k) (by omega)
                  have hdl := fm_lt (a := M0 + k) (b := 2400) hk2
                  rw [show fm ((2400 : Nat) : Int) = 73049 from fm_end] at hdl
                  rw [HDU.out] at hdb hdl
                  have hd8 : du ≤ 73048 := by omega
                  have hdE : dayB du = true := decide_eq_true ⟨hdb.1, hd8⟩
                  have HNF : Hid (rch r c du (M0 + k, t) = (M0 + k + 1, one r c (M0 + k) t)) := by
                    unfold Hid rch
                    rw [← HDU.out, nm_fm hk2]
                    show (max (M0 + k) (M0 + k + 1), pas r c (M0 + k) (M0 + k + 1 - (M0 + k)) t) = _
                    rw [show M0 + k + 1 - (M0 + k) = 1 from by omega, show max (M0 + k) (M0 + k + 1) = M0 + k + 1 from by omega]
                    rfl
                  have HNX : Hid (frstD f h l (k + 1) = du) := by
                    unfold Hid
                    rw [HFDK.out, if_neg (by omega), show M0 + (k + 1) - 1 = M0 + k from by omega, HDU.out]
                  clear hdb hdl hend
                  go_wp2_with (first
                    | (go_at_call 38; refine (isDay_any _ _).mono ?_; rintro e w' ⟨rfl, h'⟩; subst w'; rw [hdE])
                    | (go_at_call 66; refine (reach_any w5.heap.size h r c (M0 + k) t lo2 du _ (by exact HA8.out) hM8 hr0 hr1 hc0 hc1 hd8 hnn HS8.out hl9 HL10.out).mono ?_; rintro e w7 ⟨rfl, hA7, hg7⟩; refine Hid.out ?_))
                  rw [HNF.out, ← HFK.out] at hA7
                  have HA7 := Lib.hid hA7
                  have HB7 := Lib.hid (HB.out.grown hg7 HB.out.size (fun q hq => by cases hq; omega))
                  have HN7 : Hid (0 ≤ frst f h r c l (k + 1)) := by unfold Hid; rw [HFK.out]; exact one_nn hr0 hc0 _ hnn
                  have HAL7 : Hid (∀ i, i < k + 1 → frst f h r c l i < q) := fun i hi => by
                    by_cases e : i = k
                    · subst e; rw [HT.out]; exact hlt
                    · exact HALL.out i (by omega)
                  clear hA7 hg7
                  refine Lib.hid ?_
                  go_wp2_with fail
                  go_roundw
                  case rel => exact ⟨k + 1, by omega, by rw [HNX.out], HA7.out, HN7.out, HAL7.out, HB7.out, HA7.out.lt⟩
                  case measure =>
                    obtain ⟨lo9, q1, _⟩ := HA7.out
                    rw [dueOf_eq ((Own.ac q1).1.2.2.2.2.2.2.1), dueOf_eq HZ6.out, ← HDU.out]
                    have := fm_lt (a := M0 + k) (b := M0 + k + 1) (by omega)
                    have := (fm_bd (M := M0 + k) (by omega)).2
                    have := (fm_bd (M := M0 + k + 1) (by omega)).2
                    show (73049 - fm ((M0 + k + 1 : Nat) : Int)).toNat < _
                    omega
              · have hlt' : decide (t < q) = false := decide_eq_false hlt
                have HRET : Hid (FirstIs h r c l f q dv 0) := HIS.out dv 0 (.inl ⟨rfl, k, hk, HDV.out.symm, by rw [HT.out]; omega, HALL.out⟩)
                clear hlt
                go_wp2_with fail
                go_ret2
                exact ⟨⟨dv, 0, rfl, HRET.out⟩, HB.out⟩
  · have HNO : Hid (¬ (LvOk h r c l ∧ dayB f = true ∧ usedB q = true)) := fun z => her (HIFF.out.2 z.1)
    have hne : (er != 0) = true := by simpa using her
    go_wp2_with fail
    go_ret2
    exact ⟨FirstRet.no her HNO.out, HB1.out⟩
end Go.Proofs.Ytlaamfagjpdhgaa
