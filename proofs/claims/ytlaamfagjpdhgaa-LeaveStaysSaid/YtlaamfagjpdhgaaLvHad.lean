/-
  Promise T3: the walk of Had.
-/
import Derived.Test.YtlaamfagjpdhgaaLvCheck
namespace Go.Proofs.Ytlaamfagjpdhgaa
open Go.RowKit

/-- What Had answers. -/
def HadIs (h r c : Int) (l : List Us) (d v er : Int) : Prop := (er = 0 ↔ LvOk h r c l ∧ dofB h d = true) ∧ (er = 0 → ∀ p, PreOf l d p → v = hadD h r c l d p)
def HadRet (h r c : Int) (l : List Us) (d : Int) (e : Ending) : Prop := ∃ v er : Int, e = .returned (.tuple #[.int .i64 v, .int .i64 er]) ∧ HadIs h r c l d v er
theorem HadRet.no {h r c : Int} {l : List Us} {d v er : Int} (h0 : er ≠ 0) (hk : ¬ (LvOk h r c l ∧ dofB h d = true)) : HadRet h r c l d (.returned (.tuple #[.int .i64 v, .int .i64 er])) := ⟨v, er, rfl, ⟨fun q => absurd q h0, fun q => absurd q hk⟩, fun q => absurd q h0⟩
set_option maxRecDepth 100000 in
set_option maxHeartbeats 4000000 in
theorem Had_any (h r c : Int) (a : Option Addr) (n cap : Nat) (l : List Us) (d : Int) (w : World) (hc : CameU w a l) (hn : l.length = n) (hm : n ≤ maxLen) :
    Calls Try.prog 34 #[.agg #[.int .i64 h, .int .i64 r, .int .i64 c], .slice a n cap, .int .i64 d] w fun e w' => HadRet h r c l d e ∧ Below w.heap.size w w' := by
  have hm' : n ≤ 9223372036854775807 := by unfold maxLen at hm; omega
  have HC := Lib.hid hc
  have HO := Lib.hid (fun h0 => hc.open hn h0)
  have HN := Lib.hid hn
  have HM := Lib.hid hm
  clear hc hn hm
  have HB0 := Lib.hid (lbelow_box w (.cells #[.int .i64 h, .int .i64 r, .int .i64 c] 55))
  have HL0 := Lib.hid (LBox.made w h r c 55)
  have hs0 : (w.alloc (.cells #[.int .i64 h, .int .i64 r, .int .i64 c] 55)).heap.size = w.heap.size + 1 := by simp
  go_enter Try.func34, Try.ntmps34
  go_wp2_with (first | (go_at_call 37; refine (Check_any h r c a n cap l _ (HC.out.below HB0.out) HN.out HM.out).mono ?_; rintro e w1 ⟨⟨er, rfl, hiff⟩, hb1⟩; refine Hid.out ?_))
  have HIFF := Lib.hid hiff
  have HB1 := Lib.hid (HB0.out.trans (hb1.mono (by simp)))
  have HL1 := Lib.hid (HL0.out.below hb1 (by simp))
  have hs1 : w.heap.size + 1 ≤ w1.heap.size := (by have := hb1.size; rw [hs0] at this; exact this)
  clear hb1 hiff
  refine Lib.hid ?_
  by_cases her : er = 0
  · have HOK := Lib.hid (HIFF.out.1 her)
    subst her
    obtain ⟨hh0, hh1, hr0, hr1, hc0, hc1⟩ := lvB_iff.1 HOK.out.lv
    obtain ⟨k0, k1, k2⟩ := HL1.out
    cases hdo : dofB h d
    · have HNO : Hid (¬ (LvOk h r c l ∧ dofB h d = true)) := fun q => by rw [hdo] at q; cases q.2
      go_wp2_with (first | (go_at_call 63; refine (isDayOf_any h r c d _).mono ?_; rintro e w3 ⟨rfl, hb3⟩; rw [hdo]; have HB3 := Lib.hid (HB1.out.trans (hb3.mono HB1.out.size)); clear hb3))
      go_ret2
      exact ⟨HadRet.no (by decide) HNO.out, HB3.out⟩
    · obtain ⟨hd0, hd1, hd2⟩ := dofB_iff.1 hdo
      obtain ⟨p, hp⟩ := PreOf.exists (l := l) d (fun i j hij hj => HOK.out.mono hij hj)
      have HP := Lib.hid hp
      clear hp
      obtain ⟨N, hN⟩ : ∃ N, nm h = N := ⟨_, rfl⟩
      obtain ⟨Y, hY⟩ : ∃ Y : Int, 2000 + (N : Int) / 12 = Y := ⟨_, rfl⟩
      obtain ⟨Mo, hMo⟩ : ∃ Mo : Int, (N : Int) % 12 + 1 = Mo := ⟨_, rfl⟩
      obtain ⟨Du, hDu⟩ : ∃ Du : Int, fm (N : Int) = Du := ⟨_, rfl⟩
      have HBEG : Hid (∀ w0 : World, Calls Try.prog 64 #[.agg #[.int .i64 h, .int .i64 r, .int .i64 c]] w0 fun e w' => e = .returned (.agg #[.int .i64 h, .int .i64 r, .int .i64 c, .int .i64 Y, .int .i64 Mo, .int .i64 1, .int .i64 Du, .int .i64 0, .int .i64 0]) ∧ Below w0.heap.size w0 w') := by
        intro w0
        have := begun_any h r c w0 (decide_eq_true ⟨hh0, hh1⟩)
        unfold accV at this
        rw [hN, hY, hMo, hDu] at this
        exact this
      have HMK := Lib.hid (fun w0 : World => accB_made w0 h r c hY hMo hDu (by rw [← hN]; exact nm_le h) 89)
      have HN0 : Hid (stN h r c (l.take 0) = (N, 0)) := by unfold Hid stN; rw [← hN]; rfl
      clear hN hY hMo hDu
      go_wp2_with (first
        | (go_at_call 63; refine (isDayOf_any h r c d _).mono ?_; rintro e w3 ⟨rfl, hb3⟩; rw [hdo]; have HB3 := Lib.hid (HB1.out.trans (hb3.mono HB1.out.size)); have hs3 : w.heap.size + 1 ≤ w3.heap.size := Nat.le_trans hs1 hb3.size; obtain ⟨j0, j1, j2⟩ := HL1.out.below hb3 hs1; clear hb3)
        | (go_at_call 64; refine (HBEG.out _).mono ?_; rintro e w5 ⟨rfl, hb5⟩; refine Hid.out ?_))
      have HA5 := Lib.hid (HMK.out w5)
      have HB5 := Lib.hid ((HB3.out.trans (hb5.mono HB3.out.size)).alloc (by have := hb5.size; omega) (.cells #[.int .i64 h, .int .i64 r, .int .i64 c, .int .i64 Y, .int .i64 Mo, .int .i64 1, .int .i64 Du, .int .i64 0, .int .i64 0] 89))
      have hs5 : w.heap.size + 1 ≤ w5.heap.size := by have := hb5.size; omega
      clear hb5 k0 k1 k2 j0 j1 j2 HB1 HL1 HBEG HMK HB3 hs3 hs1 hdo
      refine Lib.hid ?_
      go_wp2_with fail
      go_loopw [26] (fun i wv => ∃ j : Nat, j ≤ n ∧ i = .int .i64 j ∧ AccB wv w5.heap.size h r c (stN h r c (l.take (min j p))) ∧ Below w.heap.size w wv) (fun i _ => n - (intOf i).toNat)
      case atStart =>
        refine ⟨0, Nat.zero_le _, rfl, ?_, HB5.out⟩
        rw [Nat.zero_min, HN0.out]; exact HA5.out
      case round =>
        clear HA5 HB5 HN0
        obtain ⟨j, hj, rfl, hac, hb⟩ := hrel
        have HAC := Lib.hid hac
        have HB := Lib.hid hb
        have hgl := hac.lt
        clear hac hb
        by_cases hjl : j < n
        · have hjl' : (j : Int) < (n : Int) := by omega
          obtain ⟨b, off, rfl, hcell⟩ := HO.out (by omega)
          obtain ⟨x0, x1⟩ := hcell wr HB.out j hjl
          clear hcell
          obtain ⟨_, hu1, _, hu2, hu3⟩ := useB_iff.1 (HOK.out.use j (by rw [HN.out]; exact hjl))
          have HYES := Lib.hid (fun q => HP.out.yes j q)
          have HNOT := Lib.hid (fun q => HP.out.no j q (by rw [HN.out]; exact hjl))
          have HSS : Hid (stN h r c (l.take (j + 1)) = uss r c (stN h r c (l.take j)) (unth l j)) := stN_step (by rw [HN.out]; exact hjl)
          have HS0 : Hid (0 ≤ (stN h r c (l.take j)).2) := HOK.out.nn j (by rw [HN.out]; omega)
          have HETA : Hid ((⟨(unth l j).day, (unth l j).days⟩ : Us) = unth l j) := rfl
          obtain ⟨dy, hdy⟩ : ∃ dy, (unth l j).day = dy := ⟨_, rfl⟩
          obtain ⟨ds, hds⟩ : ∃ ds, (unth l j).days = ds := ⟨_, rfl⟩
          rw [hdy] at x0 HETA hu1 HYES HNOT
          rw [hds] at x1 HETA hu2 hu3
          rw [← HETA.out] at HSS
          clear hdy hds
          have HBU := Lib.hid (lbelow_box wr (.cells #[.int .i64 dy, .int .i64 ds] 64))
          have HAC2 := Lib.hid (HAC.out.below HBU.out hgl)
          have HB2 := Lib.hid (HB.out.trans (HBU.out.mono HB.out.size))
          by_cases hdd : dy ≤ d
          · have hjp : j < p := by
              by_cases q : p ≤ j
              · have := HNOT.out q; omega
              · omega
            rw [show min j p = j from by omega] at HAC2
            obtain ⟨s0, hs0'⟩ : ∃ s0, stN h r c (l.take j) = s0 := ⟨_, rfl⟩
            rw [hs0'] at HAC2 HSS HS0
            clear hs0'
            go_wp2_with (first | (go_at_call 65; refine (use_any w5.heap.size h r c s0 dy ds _ (by exact HAC2.out) hr0 hr1 hc0 hc1 hu1 HS0.out hu2 hu3).mono ?_; rintro e w6 ⟨rfl, hA6, hg6⟩; refine Hid.out ?_))
            rw [← HSS.out] at hA6
            have HA6 := Lib.hid hA6
            have HB6 := Lib.hid (HB2.out.grown hg6 (by simp; omega) (fun q hq => by cases hq; omega))
            clear hA6 hg6
            refine Lib.hid ?_
            go_wp2_with fail
            go_roundw
            case rel => exact ⟨j + 1, by omega, by go_num, by rw [show min (j + 1) p = j + 1 from by omega]; exact HA6.out, HB6.out⟩
            case measure => simp [intOf]; omega
          · have hdd' : decide (dy ≤ d) = false := decide_eq_false hdd
            have hjp : p ≤ j := by
              by_cases q : j < p
              · have := HYES.out q; omega
              · omega
            rw [show min j p = min (j + 1) p from by omega] at HAC2
            clear hdd
            go_wp2_with fail
            go_roundw
            case rel => exact ⟨j + 1, by omega, by go_num, HAC2.out, HB2.out⟩
            case measure => simp [intOf]; omega
        · have hjn : j = n := by omega
          subst hjn
          have hple : p ≤ j := by have := HP.out.le; rw [HN.out] at this; exact this
          rw [show min j p = p from by omega] at HAC
          have HS0 : Hid (0 ≤ (stN h r c (l.take p)).2) := HOK.out.nn p HP.out.le
          have HV : Hid (hadD h r c l d p = (rch r c d (stN h r c (l.take p))).2) := rfl
          have HFIN : Hid (∀ v, (rch r c d (stN h r c (l.take p))).2 = v → HadIs h r c l d v 0) := fun v hv => ⟨⟨fun _ => ⟨HOK.out, dofB_iff.2 ⟨hd0, hd1, hd2⟩⟩, fun _ => rfl⟩, fun _ p' hp' => by rw [HP.out.unique hp'] at hv; exact hv.symm⟩
          obtain ⟨s0, hs0'⟩ : ∃ s0, stN h r c (l.take p) = s0 := ⟨_, rfl⟩
          rw [hs0'] at HAC HS0 HFIN
          clear hs0' HV
          obtain ⟨lo, hA7, hM7, hs7, hl7, hl8⟩ := HAC.out
          have HA7 := Lib.hid hA7
          have HS7 := Lib.hid hs7
          have HL8 := Lib.hid hl8
          clear hA7 hs7 hl8
          go_wp2_with (first | (go_at_call 66; refine (reach_any w5.heap.size h r c s0.1 s0.2 lo d _ (by exact HA7.out) hM7 hr0 hr1 hc0 hc1 hd1 HS0.out HS7.out hl7 HL8.out).mono ?_; rintro e w6 ⟨rfl, hA6, hg6⟩; refine Hid.out ?_))
          obtain ⟨lo', hA9, _⟩ := hA6
          obtain ⟨t, ht⟩ : ∃ t, (rch r c d s0).2 = t := ⟨_, rfl⟩
          have HT := Lib.hid ht
          rw [show (rch r c d (s0.1, s0.2)).2 = t from ht] at hA9
          have z7 := (Own.ac hA9).1.2.2.2.2.2.2.2.1
          have HB6 := Lib.hid (HB.out.grown hg6 HB.out.size (fun q hq => by cases hq; omega))
          clear hA9 hg6 ht
          refine Lib.hid ?_
          go_wp2_with fail
          go_ret2
          exact ⟨⟨t, 0, rfl, HFIN.out t HT.out⟩, HB6.out⟩
  · have HNO : Hid (¬ (LvOk h r c l ∧ dofB h d = true)) := fun q => her (HIFF.out.2 q.1)
    have hne : (er != 0) = true := by simpa using her
    go_wp2_with fail
    go_ret2
    exact ⟨HadRet.no her HNO.out, HB1.out⟩
end Go.Proofs.Ytlaamfagjpdhgaa
