/-
  Promise T2: the walk of Check.
-/
import Derived.Test.YtlaamfagjpdhgaaLvRow
namespace Go.Proofs.Ytlaamfagjpdhgaa
open Go.RowKit

/-- The day of the use ahead, or the first. -/
def lat (h : Int) (l : List Us) (k : Nat) : Int := if k = 0 then h else (unth l (k - 1)).day
/-- The first k uses are right, each by itself. -/
def Right (h : Int) (l : List Us) (k : Nat) : Prop := (∀ j, j < k → useB h (unth l j) = true) ∧ ∀ j, j + 1 < k → (unth l j).day ≤ (unth l (j + 1)).day
theorem Right.snoc {h : Int} {l : List Us} {k : Nat} (q : Right h l k) (hu : useB h (unth l k) = true) (hl : lat h l k ≤ (unth l k).day) : Right h l (k + 1) := by
  refine ⟨fun j hj => ?_, fun j hj => ?_⟩
  · by_cases e : j = k
    · subst e; exact hu
    · exact q.1 j (by omega)
  · by_cases e : j + 1 = k
    · subst e
      unfold lat at hl
      rw [if_neg (by omega)] at hl
      exact hl
    · exact q.2 j (by omega)
/-- The leave's box. -/
def LBox (w : World) (b : Nat) (h r c : Int) : Prop := w.cell? ⟨b, 0, none⟩ = some (.int .i64 h) ∧ w.cell? ⟨b, 1, none⟩ = some (.int .i64 r) ∧ w.cell? ⟨b, 2, none⟩ = some (.int .i64 c)
theorem LBox.below {B : Nat} {w w' : World} {b : Nat} {h r c : Int} (q : LBox w b h r c) (hb : Below B w w') (hB : b < B) : LBox w' b h r c :=
  ⟨(hb.cell (p := ⟨b, 0, none⟩) hB).trans q.1, (hb.cell (p := ⟨b, 1, none⟩) hB).trans q.2.1, (hb.cell (p := ⟨b, 2, none⟩) hB).trans q.2.2⟩
theorem LBox.made (w : World) (h r c : Int) (T : TypeId) : LBox (w.alloc (.cells #[.int .i64 h, .int .i64 r, .int .i64 c] T)) w.heap.size h r c := by refine ⟨?_, ?_, ?_⟩ <;> simp
theorem accB_made (w : World) (h r c : Int) {M : Nat} {y m du : Int} (hy : 2000 + (M : Int) / 12 = y) (hm : (M : Int) % 12 + 1 = m) (hd : fm (M : Int) = du) (hM : M ≤ 2400) (T : TypeId) :
    AccB (w.alloc (.cells #[.int .i64 h, .int .i64 r, .int .i64 c, .int .i64 y, .int .i64 m, .int .i64 1, .int .i64 du, .int .i64 0, .int .i64 0] T)) w.heap.size h r c (M, 0) := by
  refine ⟨0, ?_, hM, by show (0 : Int) ≤ 1000 * (M : Int); omega, by omega, by show (0 : Int) ≤ 2400000 * (M : Int); omega⟩
  show Acc _ _ h r c M (fm (M : Int)) 0 0
  unfold Acc
  rw [hy, hm, hd]
  exact acc_made w h r c y m du 0 0 T
/-- The uses so far, and none below 0. -/
def Nn (h r c : Int) (l : List Us) (k : Nat) : Prop := ∀ j, j ≤ k → 0 ≤ (stN h r c (l.take j)).2
def ChkRet (h r c : Int) (l : List Us) (e : Ending) : Prop := ∃ er : Int, e = .returned (.int .i64 er) ∧ (er = 0 ↔ LvOk h r c l)
theorem ChkRet.no {h r c : Int} {l : List Us} {er : Int} (h0 : er ≠ 0) (hk : ¬ LvOk h r c l) : ChkRet h r c l (.returned (.int .i64 er)) := ⟨er, rfl, fun q => absurd q h0, fun q => absurd q hk⟩
set_option maxRecDepth 100000 in
set_option maxHeartbeats 4000000 in
theorem Check_any (h r c : Int) (a : Option Addr) (n cap : Nat) (l : List Us) (w : World) (hc : CameU w a l) (hn : l.length = n) (hm : n ≤ maxLen) :
    Calls Try.prog 37 #[.agg #[.int .i64 h, .int .i64 r, .int .i64 c], .slice a n cap] w fun e w' => ChkRet h r c l e ∧ Below w.heap.size w w' := by
  have hm' : n ≤ 9223372036854775807 := by unfold maxLen at hm; omega
  have HO := Lib.hid (fun h0 => hc.open hn h0)
  have HN := Lib.hid hn
  clear hc hn hm
  have HB0 := Lib.hid (lbelow_box w (.cells #[.int .i64 h, .int .i64 r, .int .i64 c] 55))
  have HL0 := Lib.hid (LBox.made w h r c 55)
  have hs0 : (w.alloc (.cells #[.int .i64 h, .int .i64 r, .int .i64 c] 55)).heap.size = w.heap.size + 1 := by simp
  cases hlv : lvB h r c
  · have HNO : Hid (¬ LvOk h r c l) := fun q => by have := q.lv; rw [hlv] at this; cases this
    go_enter Try.func37, Try.ntmps37
    go_wp2_with (first | (go_at_call 70; refine (isLeave_any h r c _).mono ?_; rintro e w1 ⟨rfl, hb1⟩; rw [hlv]; have HB1 := Lib.hid (HB0.out.trans (hb1.mono (by simp))); clear hb1))
    go_ret
    exact ⟨ChkRet.no (by decide) HNO.out, HB1.out⟩
  · have HLV := Lib.hid hlv
    obtain ⟨hh0, hh1, hr0, hr1, hc0, hc1⟩ := lvB_iff.1 hlv
    by_cases h100 : 100 < n
    · have HNO : Hid (¬ LvOk h r c l) := fun q => by have := q.len; rw [HN.out] at this; omega
      have h100' : (100 : Int) < (n : Int) := by omega
      go_enter Try.func37, Try.ntmps37
      go_wp2_with (first | (go_at_call 70; refine (isLeave_any h r c _).mono ?_; rintro e w1 ⟨rfl, hb1⟩; rw [hlv]; have HB1 := Lib.hid (HB0.out.trans (hb1.mono (by simp))); clear hb1))
      go_ret
      exact ⟨ChkRet.no (by decide) HNO.out, HB1.out⟩
    · have h100' : decide ((100 : Int) < (n : Int)) = false := decide_eq_false (by omega)
      have hn100 : n ≤ 100 := by omega
      clear h100
      go_enter Try.func37, Try.ntmps37
      go_wp2_with (first | (go_at_call 70; refine (isLeave_any h r c _).mono ?_; rintro e w1 ⟨rfl, hb1⟩; rw [hlv]; have HB1 := Lib.hid (HB0.out.trans (hb1.mono (by simp))); have HL1 := Lib.hid (HL0.out.below hb1 (by simp)); have hs1 : w.heap.size + 1 ≤ w1.heap.size := (by have := hb1.size; rw [hs0] at this; exact this); clear hb1; obtain ⟨k0, k1, k2⟩ := HL1.out))
      clear k0 k1 k2 hlv
      go_loopw [5, 21] (fun la i wr => ∃ k : Nat, k ≤ n ∧ la = .int .i64 (lat h l k) ∧ i = .int .i64 k ∧ Right h l k ∧ LBox wr w.heap.size h r c ∧ Below w.heap.size w wr ∧ w.heap.size + 1 ≤ wr.heap.size) (fun _ i _ => n - (intOf i).toNat)
      case atStart => exact ⟨0, Nat.zero_le _, rfl, rfl, ⟨fun j hj => by omega, fun j hj => by omega⟩, HL1.out, HB1.out, hs1⟩
      case round =>
        clear HL1 HB1 hs1
        obtain ⟨k, hk, rfl, rfl, hri, hlb, hb, hsz⟩ := hrel
        have HRI := Lib.hid hri
        have HLB := Lib.hid hlb
        have HB := Lib.hid hb
        clear hri hlb hb
        by_cases hlt : k < n
        · have hlt' : (k : Int) < (n : Int) := by omega
          obtain ⟨b, off, rfl, hcell⟩ := HO.out (by omega)
          obtain ⟨x0, x1⟩ := hcell wr HB.out k hlt
          clear hcell
          have HSN := Lib.hid (fun q1 q2 => HRI.out.snoc (l := l) (k := k) q1 q2)
          have HUS : Hid (useB h (unth l k) = (dofB h (unth l k).day && usedB (unth l k).days)) := rfl
          have HNX : Hid (lat h l (k + 1) = (unth l k).day) := by unfold Hid lat; rw [if_neg (by omega)]; rfl
          have HNU : Hid (useB h (unth l k) = false → ¬ LvOk h r c l) := fun q1 q => by have := q.use k (by rw [HN.out]; exact hlt); rw [q1] at this; cases this
          have HNS : Hid ((unth l k).day < lat h l k → useB h (unth l k) = true → ¬ LvOk h r c l) := fun q1 q0 q => by
            unfold lat at q1
            by_cases e : k = 0
            · rw [if_pos e] at q1
              have := useB_iff.1 q0
              omega
            · rw [if_neg e] at q1
              have := q.up (k - 1) (by rw [HN.out]; omega)
              rw [show k - 1 + 1 = k from by omega] at this
              omega
          obtain ⟨dy, hdy⟩ : ∃ dy, (unth l k).day = dy := ⟨_, rfl⟩
          obtain ⟨ds, hds⟩ : ∃ ds, (unth l k).days = ds := ⟨_, rfl⟩
          obtain ⟨la, hla⟩ : ∃ la, lat h l k = la := ⟨_, rfl⟩
          rw [hdy] at x0 HUS HNX HNS HSN
          rw [hds] at x1 HUS
          rw [hla] at HNS HSN ⊢
          clear hdy hds hla
          have HBU := Lib.hid (lbelow_box wr (.cells #[.int .i64 dy, .int .i64 ds] 64))
          have HB2 := Lib.hid (HB.out.trans (HBU.out.mono HB.out.size))
          obtain ⟨k0, k1, k2⟩ := HLB.out.below HBU.out (by omega)
          have HLB2 : Hid (LBox (wr.alloc (.cells #[.int .i64 dy, .int .i64 ds] 64)) w.heap.size h r c) := ⟨k0, k1, k2⟩
          cases hdo : dofB h dy
          · have HNO : Hid (¬ LvOk h r c l) := HNU.out (by rw [HUS.out, hdo]; rfl)
            go_wp2_with (first | (go_at_call 63; refine (isDayOf_any h r c dy _).mono ?_; rintro e w3 ⟨rfl, hb3⟩; rw [hdo]; have HB3 := Lib.hid (HB2.out.trans (hb3.mono (by simp; omega))); clear hb3))
            go_ret
            exact ⟨ChkRet.no (by decide) HNO.out, HB3.out⟩
          · go_wp2_with (first
              | (go_at_call 63; refine (isDayOf_any h r c dy _).mono ?_; rintro e w3 ⟨rfl, hb3⟩; rw [hdo]; refine Hid.out ?_))
            have HB3 := Lib.hid (HB2.out.trans (hb3.mono (by simp; omega)))
            have HLB3 := Lib.hid (HLB2.out.below hb3 (by simp; omega))
            have u0 : w3.cell? ⟨wr.heap.size, 0, none⟩ = some (.int .i64 dy) := (hb3.cell (p := ⟨wr.heap.size, 0, none⟩) (by simp)).trans (by simp)
            have u1 : w3.cell? ⟨wr.heap.size, 1, none⟩ = some (.int .i64 ds) := (hb3.cell (p := ⟨wr.heap.size, 1, none⟩) (by simp)).trans (by simp)
            have hs3 : w.heap.size + 1 ≤ w3.heap.size := by have := hb3.size; simp at this; omega
            clear hb3 k0 k1 k2 HB2 HLB2 HBU HB HLB
            refine Lib.hid ?_
            cases hus : usedB ds
            · have HNO : Hid (¬ LvOk h r c l) := HNU.out (by rw [HUS.out, hus]; simp)
              go_wp2_with (first | (go_at_call 69; refine (isUsed_any ds _).mono ?_; rintro e w4 ⟨rfl, h4⟩; subst w4; rw [hus]))
              go_ret
              exact ⟨ChkRet.no (by decide) HNO.out, HB3.out⟩
            · have HU1 : Hid (useB h (unth l k) = true) := by unfold Hid; rw [HUS.out, hdo, hus]; rfl
              by_cases hst : dy < la
              · have HNO : Hid (¬ LvOk h r c l) := HNS.out hst HU1.out
                go_wp2_with (first | (go_at_call 69; refine (isUsed_any ds _).mono ?_; rintro e w4 ⟨rfl, h4⟩; subst w4; rw [hus]))
                go_ret
                exact ⟨ChkRet.no (by decide) HNO.out, HB3.out⟩
              · have hst' : decide (dy < la) = false := decide_eq_false hst
                have HR2 := Lib.hid (HSN.out HU1.out (by omega))
                clear hst
                go_wp2_with (first | (go_at_call 69; refine (isUsed_any ds _).mono ?_; rintro e w4 ⟨rfl, h4⟩; subst w4; rw [hus]))
                go_roundw
                case rel => exact ⟨k + 1, by omega, by rw [HNX.out], by go_num, HR2.out, HLB3.out, HB3.out, hs3⟩
                case measure => simp [intOf]; omega
        · have hkn : k = n := by omega
          subst hkn
          have hlt' : decide ((k : Int) < (k : Int)) = false := decide_eq_false (by omega)
          obtain ⟨k0, k1, k2⟩ := HLB.out
          obtain ⟨N, hN⟩ : ∃ N, nm h = N := ⟨_, rfl⟩
          obtain ⟨Y, hY⟩ : ∃ Y : Int, 2000 + (N : Int) / 12 = Y := ⟨_, rfl⟩
          obtain ⟨Mo, hMo⟩ : ∃ Mo : Int, (N : Int) % 12 + 1 = Mo := ⟨_, rfl⟩
          obtain ⟨Du, hDu⟩ : ∃ Du : Int, fm (N : Int) = Du := ⟨_, rfl⟩
          have HBEG : Hid (∀ w0 : World, Calls Try.prog 64 #[.agg #[.int .i64 h, .int .i64 r, .int .i64 c]] w0 fun e w' => e = .returned (.agg #[.int .i64 h, .int .i64 r, .int .i64 c, .int .i64 Y, .int .i64 Mo, .int .i64 1, .int .i64 Du, .int .i64 0, .int .i64 0]) ∧ Below w0.heap.size w0 w') := by
            intro w0
            have := begun_any h r c w0 (decide_eq_true ⟨hh0, hh1⟩)
            unfold accV at this
            rw [hN, hY, hMo, hDu] at this
            exact this
          have HMK := Lib.hid (fun w0 : World => accB_made w0 h r c hY hMo hDu (by rw [← hN]; exact nm_le h) 89)
          have HN0 : Hid (stN h r c (l.take 0) = (N, 0)) := by unfold Hid stN; rw [← hN]; rfl
          clear hN hY hMo hDu
          go_wp2_with (first | (go_at_call 64; refine (HBEG.out _).mono ?_; rintro e w5 ⟨rfl, hb5⟩; refine Hid.out ?_))
          have HA5 := Lib.hid (HMK.out w5)
          have HB5 := Lib.hid ((HB.out.trans (hb5.mono HB.out.size)).alloc (by have := hb5.size; omega) (.cells #[.int .i64 h, .int .i64 r, .int .i64 c, .int .i64 Y, .int .i64 Mo, .int .i64 1, .int .i64 Du, .int .i64 0, .int .i64 0] 89))
          have hs5 : w.heap.size + 1 ≤ w5.heap.size := by have := hb5.size; omega
          clear hb5 k0 k1 k2 HB HLB HBEG HMK
          refine Lib.hid ?_
          go_wp2_with fail
          generalize wr = wq at *
          go_loopw [47] (fun i wv => ∃ j : Nat, j ≤ k ∧ i = .int .i64 j ∧ AccB wv w5.heap.size h r c (stN h r c (l.take j)) ∧ Nn h r c l j ∧ Below w.heap.size w wv) (fun i _ => k - (intOf i).toNat)
          case atStart =>
            refine ⟨0, Nat.zero_le _, rfl, ?_, ?_, HB5.out⟩
            · rw [HN0.out]; exact HA5.out
            · intro j hj
              obtain rfl : j = 0 := by omega
              rw [HN0.out]
              exact Int.le_refl _
          case round =>
            clear HA5 HB5 HN0
            obtain ⟨j, hj, rfl, hac, hnn, hb⟩ := hrel
            have HAC := Lib.hid hac
            have HNN := Lib.hid hnn
            have HB := Lib.hid hb
            have hgl := hac.lt
            clear hac hnn hb
            by_cases hjl : j < k
            · have hjl' : (j : Int) < (k : Int) := by omega
              obtain ⟨b, off, rfl, hcell⟩ := HO.out (by omega)
              obtain ⟨x0, x1⟩ := hcell wr HB.out j hjl
              clear hcell
              have HSS : Hid (stN h r c (l.take (j + 1)) = uss r c (stN h r c (l.take j)) (unth l j)) := stN_step (by rw [HN.out]; exact hjl)
              obtain ⟨_, hd1, _, hd2, hd3⟩ := useB_iff.1 (HRI.out.1 j hjl)
              have HS0 := Lib.hid (HNN.out j (Nat.le_refl _))
              have HETA : Hid ((⟨(unth l j).day, (unth l j).days⟩ : Us) = unth l j) := rfl
              obtain ⟨dy, hdy⟩ : ∃ dy, (unth l j).day = dy := ⟨_, rfl⟩
              obtain ⟨ds, hds⟩ : ∃ ds, (unth l j).days = ds := ⟨_, rfl⟩
              rw [hdy] at x0 HETA hd1
              rw [hds] at x1 HETA hd2 hd3
              rw [← HETA.out] at HSS
              clear hdy hds
              obtain ⟨s0, hs0'⟩ : ∃ s0, stN h r c (l.take j) = s0 := ⟨_, rfl⟩
              rw [hs0'] at HAC HSS HS0
              have HBU := Lib.hid (lbelow_box wr (.cells #[.int .i64 dy, .int .i64 ds] 64))
              have HAC2 := Lib.hid (HAC.out.below HBU.out hgl)
              have HB2 := Lib.hid (HB.out.trans (HBU.out.mono HB.out.size))
              clear hs0'
              go_wp2_with (first | (go_at_call 65; refine (use_any w5.heap.size h r c s0 dy ds _ (by exact HAC2.out) hr0 hr1 hc0 hc1 hd1 HS0.out hd2 hd3).mono ?_; rintro e w6 ⟨rfl, hA6, hg6⟩; refine Hid.out ?_))
              rw [← HSS.out] at hA6
              have HA6 := Lib.hid hA6
              have HB6 := Lib.hid (HB2.out.grown hg6 (by simp; omega) (fun q hq => by cases hq; omega))
              obtain ⟨lo, hA7, _⟩ := hA6
              obtain ⟨t, ht⟩ : ∃ t, (stN h r c (l.take (j + 1))).2 = t := ⟨_, rfl⟩
              rw [ht] at hA7
              have HT := Lib.hid ht
              have z7 := (Own.ac hA7).1.2.2.2.2.2.2.2.1
              clear hA7 hg6 ht HAC HAC2 HBU HB HB2
              refine Lib.hid ?_
              by_cases hneg : t < 0
              · have HNO : Hid (¬ LvOk h r c l) := fun q => by
                  have := q.nn (j + 1) (by rw [HN.out]; omega)
                  rw [HT.out] at this
                  omega
                go_wp2_with fail
                go_ret
                exact ⟨ChkRet.no (by decide) HNO.out, HB6.out⟩
              · have hneg' : decide (t < 0) = false := decide_eq_false hneg
                have HN2 : Hid (Nn h r c l (j + 1)) := fun i hi => by
                  by_cases e : i = j + 1
                  · subst e; rw [HT.out]; omega
                  · exact HNN.out i (by omega)
                clear hneg
                go_wp2_with fail
                go_roundw
                case rel => exact ⟨j + 1, by omega, by go_num, HA6.out, HN2.out, HB6.out⟩
                case measure => simp [intOf]; omega
            · have hjk : j = k := by omega
              subst hjk
              have HOK : Hid (LvOk h r c l) := ⟨HLV.out, by rw [HN.out]; exact hn100, fun i hi => HRI.out.1 i (by rw [← HN.out]; exact hi), fun i hi => HRI.out.2 i (by rw [← HN.out]; exact hi), fun i hi => HNN.out i (by rw [← HN.out]; exact hi)⟩
              go_wp2_with fail
              go_ret
              exact ⟨⟨0, rfl, fun _ => HOK.out, fun _ => rfl⟩, HB.out⟩
end Go.Proofs.Ytlaamfagjpdhgaa
