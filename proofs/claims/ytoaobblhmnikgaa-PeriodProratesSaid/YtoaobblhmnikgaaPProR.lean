/-
  Promise C4: the walk of the reference's ProratePart.
-/
import Derived.Test.YtoaobblhmnikgaaPPro
import Derived.Test.YtoaobblhmnikgaaCWorkR
namespace Go.Proofs.Ytoaobblhmnikgaa
open Go.RowKit Go.Maps

/-- How many of the n days from f on have a property. -/
def cntF (P : Int → Bool) (f : Int) : Nat → Int
  | 0 => 0
  | n + 1 => cntF P f n + (if P (f + n) = true then 1 else 0)
theorem cntF_yes {P : Int → Bool} {f : Int} {n : Nat} (h : P (f + n) = true) : cntF P f (n + 1) = cntF P f n + 1 := by rw [cntF, if_pos h]
theorem cntF_no {P : Int → Bool} {f : Int} {n : Nat} (h : P (f + n) = false) : cntF P f (n + 1) = cntF P f n := by rw [cntF, if_neg (by rw [h]; simp), Int.add_zero]
theorem cntF_work (l : List Int) (f : Int) : ∀ n, cntF (workB l) f n = cntW l f n
  | 0 => rfl
  | n + 1 => by rw [cntF, cntW, cntF_work l f n]
theorem cntF_all (f : Int) : ∀ n : Nat, cntF (fun _ => true) f n = n
  | 0 => rfl
  | n + 1 => by rw [cntF, cntF_all f n, if_pos rfl]; omega
theorem cntF_bd (P : Int → Bool) (f : Int) : ∀ n : Nat, 0 ≤ cntF P f n ∧ cntF P f n ≤ n
  | 0 => ⟨Int.le_refl _, Int.le_refl _⟩
  | n + 1 => by
    have := cntF_bd P f n
    rw [cntF]
    split <;> omega
/-- Of those in another period: they are those from the later beginning to the earlier end. -/
theorem cntF_in (P : Int → Bool) (f g u : Int) : ∀ n : Nat, cntF (fun x => P x && inB x g u) f n = cntF P (max f g) (min (f + n - 1) u - max f g + 1).toNat
  | 0 => by
    have : (min (f + (0 : Nat) - 1) u - max f g + 1).toNat = 0 := by omega
    rw [this]
    rfl
  | n + 1 => by
    rw [cntF, cntF_in P f g u n]
    by_cases h1 : g ≤ f + n
    · by_cases h2 : f + n ≤ u
      · have e1 : (min (f + ((n + 1 : Nat) : Int) - 1) u - max f g + 1).toNat = (min (f + (n : Int) - 1) u - max f g + 1).toNat + 1 := by omega
        have e2 : max f g + ((min (f + (n : Int) - 1) u - max f g + 1).toNat : Int) = f + n := by omega
        rw [e1, cntF, e2]
        have : inB (f + n) g u = true := by unfold inB; simp [h1, h2]
        simp [this]
      · have e1 : (min (f + ((n + 1 : Nat) : Int) - 1) u - max f g + 1).toNat = (min (f + (n : Int) - 1) u - max f g + 1).toNat := by omega
        rw [e1]
        have : inB (f + n) g u = false := by unfold inB; simp [h2]
        simp [this]
    · have e1 : (min (f + ((n + 1 : Nat) : Int) - 1) u - max f g + 1).toNat = (min (f + (n : Int) - 1) u - max f g + 1).toNat := by omega
      rw [e1]
      have : inB (f + n) g u = false := by unfold inB; simp [h1]
      simp [this]
/-- What counts, by a basis. -/
def basB (l : List Int) (ba : Int) (x : Int) : Bool := if ba = 2 then workB l x else true
theorem cntP_F (l : List Int) {ba f t : Int} (hb : ba = 1 ∨ ba = 2) (h : f ≤ t + 1) : cntF (basB l ba) f (t - f + 1).toNat = cntP l ba f t := by
  rcases hb with rfl | rfl
  · rw [show basB l 1 = fun _ => true from by funext x; rfl, cntF_all, show cntP l 1 f t = t - f + 1 from if_pos rfl]
    omega
  · rw [show basB l 2 = workB l from by funext x; rfl, cntF_work, show cntP l 2 f t = cntD l f t from if_neg (by omega)]
    unfold cntD
    rw [show t - f + 1 = t + 1 - f from by omega]
theorem rd_zero (d : Int) : rd 0 d 5 = 0 := by
  unfold rd
  simp

theorem one_cells (w : World) (d : Int) : ∀ k, k < 1 → (w.alloc (.cells #[.int .i64 d] 3)).cell? ⟨w.heap.size, k, none⟩ = some (.int .i64 (nth [d] k)) := by
  intro k hk
  have : k = 0 := by omega
  subst this
  simp [nth]
theorem checkE_same {l : List Int} {f t : Int} (hf : dayB f = true) (ht : dayB t = true) : checkE l [f] = checkE l [f, t] := by
  unfold checkE
  simp [hf, ht]

theorem Two.drewN {w : World} {b : Nat} {f t g u : Int} (h : Two w b f t g u) (k : Nat) : Two (w.drewN k) b f t g u := h
set_option maxRecDepth 100000 in
set_option maxHeartbeats 2000000 in
theorem prorate_ref (am f t g u ba : Int) (a : Option Addr) (n cap : Nat) (l : List Int) (w : World) (hc : Came w a l) (hn : l.length = n) (hm : n ≤ maxLen) :
    Calls Try.prog 25 #[.int .i64 am, .agg #[.int .i64 f, .int .i64 t], .agg #[.int .i64 g, .int .i64 u], .int .i64 ba, .slice a n cap] w fun e w' => ∃ r er : Int, e = .returned (.tuple #[.int .i64 r, .int .i64 er]) ∧ ProIs l am f t g u ba r er ∧ Below w.heap.size w w' := by
  have HC := Lib.hid hc
  have HN := Lib.hid hn
  have HM := Lib.hid hm
  clear hc hn hm
  have HT0 := Lib.hid (Two.made w f t g u 29)
  have HB0 := Lib.hid (((Below.refl w.heap.size w).alloc (Nat.le_refl _) (.cells #[.int .i64 f, .int .i64 t] 29)).alloc (by simp) (.cells #[.int .i64 g, .int .i64 u] 29))
  by_cases hba : ba = 1 ∨ ba = 2
  · cases hmo : monB am
    · have HP : Hid (ProIs l am f t g u ba 0 3) := .inr ⟨hba, .inl ⟨.inl hmo, rfl, rfl⟩⟩
      rcases hba with rfl | rfl
      · go_enter Try.func25, Try.ntmps25
        go_wp2_with (go_at_call 47; refine (isMoney_ref _ _).mono ?_; rintro e w' ⟨rfl, h'⟩; subst w')
        go_ret2
        exact ⟨_, _, rfl, HP.out, HB0.out⟩
      · go_enter Try.func25, Try.ntmps25
        go_wp2_with (go_at_call 47; refine (isMoney_ref _ _).mono ?_; rintro e w' ⟨rfl, h'⟩; subst w')
        go_ret2
        exact ⟨_, _, rfl, HP.out, HB0.out⟩
    · obtain ⟨hmo0, hmo1⟩ := monB_iff.1 hmo
      rcases hba with rfl | rfl
      · go_enter Try.func25, Try.ntmps25
        go_wp2_with (go_at_call 47; refine (isMoney_ref _ _).mono ?_; rintro e w' ⟨rfl, h'⟩; subst w')
        refine (whole_ref f t _).mono ?_
        rintro e w1 ⟨rfl, hb1⟩
        have HB1 := Lib.hid (HB0.out.trans (hb1.mono HB0.out.size))
        have HT1 := Lib.hid (HT0.out.below hb1)
        clear hb1
        cases hper : perB f t
        · have HP : Hid (ProIs l am f t g u 1 0 3) := .inr ⟨(show (1 : Int) = 1 ∨ (1 : Int) = 2 by omega), .inl ⟨.inr hper, rfl, rfl⟩⟩
          go_wp2_with fail
          go_ret2
          exact ⟨_, _, rfl, HP.out, HB1.out⟩
        · obtain ⟨hf0, hft, ht1⟩ := perB_iff.1 hper
          have hdf : dayB f = true := dayB_iff.2 ⟨by omega, by omega⟩
          have hdt : dayB t = true := dayB_iff.2 ⟨by omega, by omega⟩
          obtain ⟨⟨x0, x1⟩, ⟨y0, y1⟩, hl⟩ := HT1.out
          go_wp2_with fail
          have HB2 := Lib.hid (HB1.out.alloc HB1.out.size (.cells #[.int .i64 f] 3))
          refine (checkHolidays_ref a n cap l w1.heap.size 1 1 [f] _ (HC.out.below HB2.out) HN.out HM.out (one_cells w1 f) rfl (by omega)).mono ?_
          rintro e w3 ⟨rfl, k3, rfl⟩
          have HB3 := Lib.hid (below_dN HB2.out k3)
          have HT3 := Lib.hid ((HT1.out.below ((Below.refl w1.heap.size w1).alloc (Nat.le_refl _) (.cells #[.int .i64 f] 3))).drewN k3)
          clear x0 x1 y0 y1 hl
          rw [checkE_same hdf hdt]
          by_cases hz : checkE l [f, t] = 0
          · have hn60 : n ≤ 60 := by have := (checkE_ok hz).1; have := HN.out; omega
            obtain ⟨⟨x0, x1⟩, ⟨y0, y1⟩, hl⟩ := HT3.out
            go_wp2_with fail
            clear x0 x1 y0 y1 hl
            go_loopw [13, 14, 15] (fun c p d wr => ∃ k : Nat, k ≤ (t - f + 1).toNat ∧ c = .int .i64 (cntF (basB l 1) f k) ∧ p = .int .i64 (cntF (fun x => basB l 1 x && inB x g u) f k) ∧ d = .int .i64 (f + k) ∧ Two wr w.heap.size f t g u ∧ Below w.heap.size w wr) (fun _ _ d _ => (t + 1 - intOf d).toNat)
            case atStart => exact ⟨0, Nat.zero_le _, rfl, rfl, by simp, HT3.out, HB3.out⟩
            case round =>
              obtain ⟨k, hk, rfl, rfl, rfl, hT, hb⟩ := hrel
              have HT := Lib.hid hT
              have HB := Lib.hid hb
              clear hT hb
              have hcb := cntF_bd (basB l 1) f k
              have hpb := cntF_bd (fun x => basB l 1 x && inB x g u) f k
              obtain ⟨⟨x0, x1⟩, ⟨y0, y1⟩, hl⟩ := HT.out
              by_cases hlt : f + (k : Int) ≤ t
              · have hdx : dayB (f + (k : Int)) = true := dayB_iff.2 ⟨by omega, by omega⟩
                have HWI := Lib.hid (within_ref (f + (k : Int)) g u wr)
                cases hwx : basB l 1 (f + (k : Int))
                · have HC1 := Lib.hid (cntF_no (P := basB l 1) hwx)
                  have HC2 := Lib.hid (cntF_no (P := fun x => basB l 1 x && inB x g u) (f := f) (n := k) (by simp [hwx]))
                  exact absurd (show true = false from hwx) (by simp)
                · have HC1 := Lib.hid (cntF_yes (P := basB l 1) hwx)
                  cases hin : inB (f + (k : Int)) g u
                  · have HC2 := Lib.hid (cntF_no (P := fun x => basB l 1 x && inB x g u) (f := f) (n := k) (by simp [hin]))
                    rw [hin] at HWI
                    go_wp2_with fail
                    refine HWI.out.mono ?_
                    rintro e w5 ⟨rfl, hb5⟩
                    have HB5 := Lib.hid (HB.out.trans (hb5.mono HB.out.size))
                    have HT5 := Lib.hid (HT.out.below hb5)
                    clear hb5
                    go_wp2_with fail
                    go_roundw
                    case rel => exact ⟨k + 1, by omega, by rw [HC1.out], by rw [HC2.out], by go_num, HT5.out, HB5.out⟩
                    case measure => simp [intOf] <;> omega
                  · have HC2 := Lib.hid (cntF_yes (P := fun x => basB l 1 x && inB x g u) (f := f) (n := k) (by simp [hwx, hin]))
                    rw [hin] at HWI
                    go_wp2_with fail
                    refine HWI.out.mono ?_
                    rintro e w5 ⟨rfl, hb5⟩
                    have HB5 := Lib.hid (HB.out.trans (hb5.mono HB.out.size))
                    have HT5 := Lib.hid (HT.out.below hb5)
                    clear hb5
                    go_wp2_with fail
                    go_roundw
                    case rel => exact ⟨k + 1, by omega, by rw [HC1.out], by rw [HC2.out], by go_num, HT5.out, HB5.out⟩
                    case measure => simp [intOf] <;> omega
              · have hltB : decide (f + (k : Int) ≤ t) = false := decide_eq_false hlt
                have hke : k = (t - f + 1).toNat := by omega
                have HALL : Hid (cntF (basB l 1) f k = cntP l 1 f t) := by unfold Hid; rw [hke]; exact cntP_F l (by omega) (by omega)
                have HPART : Hid (max f g ≤ min t u → cntF (fun x => basB l 1 x && inB x g u) f k = cntP l 1 (max f g) (min t u)) := fun hov => by
                  rw [cntF_in, ← cntP_F l (show (1 : Int) = 1 ∨ (1 : Int) = 2 by omega) (by omega)]
                  congr 2
                  omega
                have HNONE : Hid (min t u < max f g → cntF (fun x => basB l 1 x && inB x g u) f k = 0) := fun hov => by
                  rw [cntF_in, show (min (f + (k : Int) - 1) u - max f g + 1).toNat = 0 from by omega]
                  rfl
                clear hke
                rw [HALL.out] at hcb
                rw [HALL.out]
                generalize cntF (fun x => basB l 1 x && inB x g u) f k = part at *
                have HP5 : Hid (cntP l 1 f t = 0 → ProIs l am f t g u 1 0 5) := fun h => .inr ⟨(show (1 : Int) = 1 ∨ (1 : Int) = 2 by omega), .inr ⟨hmo, hper, .inr ⟨hz, .inl ⟨h, rfl, rfl⟩⟩⟩⟩
                have HPX : Hid (cntP l 1 f t ≠ 0 → ProIs l am f t g u 1 (rd (am * part) (cntP l 1 f t) 5) 0) := fun h => by
                  by_cases hov : max f g ≤ min t u
                  · rw [HPART.out hov]
                    exact .inr ⟨(show (1 : Int) = 1 ∨ (1 : Int) = 2 by omega), .inr ⟨hmo, hper, .inr ⟨hz, .inr ⟨h, .inr ⟨hov, rfl, rfl⟩⟩⟩⟩⟩
                  · rw [HNONE.out (by omega), Int.mul_zero, rd_zero]
                    exact .inr ⟨(show (1 : Int) = 1 ∨ (1 : Int) = 2 by omega), .inr ⟨hmo, hper, .inr ⟨hz, .inr ⟨h, .inl ⟨by omega, rfl, rfl⟩⟩⟩⟩⟩
                generalize cntP l 1 f t = all at *
                by_cases hall0 : all = 0
                · have HP := Lib.hid (HP5.out hall0)
                  subst hall0
                  go_wp2_with fail
                  go_ret2
                  exact ⟨_, _, rfl, HP.out, HB.out⟩
                · have hall0B : decide (all = 0) = false := decide_eq_false hall0
                  have HP := Lib.hid (HPX.out hall0)
                  have hpb2 := prod_bd (a := am) (r := part) hmo0 hmo1 hpb.1 (by omega)
                  have hwr : IntKind.i64.wrap (am * part) = am * part := by rw [IntKind.wrap_i64]; omega
                  go_wp2_with fail
                  refine (rounded_ref (am * part) all 5 _ (by omega) (by omega) hpb2.1 hpb2.2 ⟨by omega, by omega⟩).mono ?_
                  rintro e w6 ⟨rfl, h6⟩
                  subst w6
                  go_wp2_with fail
                  go_ret2
                  exact ⟨_, _, rfl, HP.out, HB.out⟩
          · have hzB : decide (checkE l [f, t] = 0) = false := decide_eq_false hz
            have hcb := checkE_bd l [f, t]
            have HP : Hid (ProIs l am f t g u 1 0 (checkE l [f, t])) := .inr ⟨(show (1 : Int) = 1 ∨ (1 : Int) = 2 by omega), .inr ⟨hmo, hper, .inl ⟨hz, rfl, rfl⟩⟩⟩
            go_wp2_with fail
            go_ret2
            exact ⟨_, _, rfl, HP.out, HB3.out⟩
      · go_enter Try.func25, Try.ntmps25
        go_wp2_with (go_at_call 47; refine (isMoney_ref _ _).mono ?_; rintro e w' ⟨rfl, h'⟩; subst w')
        refine (whole_ref f t _).mono ?_
        rintro e w1 ⟨rfl, hb1⟩
        have HB1 := Lib.hid (HB0.out.trans (hb1.mono HB0.out.size))
        have HT1 := Lib.hid (HT0.out.below hb1)
        clear hb1
        cases hper : perB f t
        · have HP : Hid (ProIs l am f t g u 2 0 3) := .inr ⟨(show (2 : Int) = 1 ∨ (2 : Int) = 2 by omega), .inl ⟨.inr hper, rfl, rfl⟩⟩
          go_wp2_with fail
          go_ret2
          exact ⟨_, _, rfl, HP.out, HB1.out⟩
        · obtain ⟨hf0, hft, ht1⟩ := perB_iff.1 hper
          have hdf : dayB f = true := dayB_iff.2 ⟨by omega, by omega⟩
          have hdt : dayB t = true := dayB_iff.2 ⟨by omega, by omega⟩
          obtain ⟨⟨x0, x1⟩, ⟨y0, y1⟩, hl⟩ := HT1.out
          go_wp2_with fail
          have HB2 := Lib.hid (HB1.out.alloc HB1.out.size (.cells #[.int .i64 f] 3))
          refine (checkHolidays_ref a n cap l w1.heap.size 1 1 [f] _ (HC.out.below HB2.out) HN.out HM.out (one_cells w1 f) rfl (by omega)).mono ?_
          rintro e w3 ⟨rfl, k3, rfl⟩
          have HB3 := Lib.hid (below_dN HB2.out k3)
          have HT3 := Lib.hid ((HT1.out.below ((Below.refl w1.heap.size w1).alloc (Nat.le_refl _) (.cells #[.int .i64 f] 3))).drewN k3)
          clear x0 x1 y0 y1 hl
          rw [checkE_same hdf hdt]
          by_cases hz : checkE l [f, t] = 0
          · have hn60 : n ≤ 60 := by have := (checkE_ok hz).1; have := HN.out; omega
            obtain ⟨⟨x0, x1⟩, ⟨y0, y1⟩, hl⟩ := HT3.out
            go_wp2_with fail
            clear x0 x1 y0 y1 hl
            go_loopw [13, 14, 15] (fun c p d wr => ∃ k : Nat, k ≤ (t - f + 1).toNat ∧ c = .int .i64 (cntF (basB l 2) f k) ∧ p = .int .i64 (cntF (fun x => basB l 2 x && inB x g u) f k) ∧ d = .int .i64 (f + k) ∧ Two wr w.heap.size f t g u ∧ Below w.heap.size w wr) (fun _ _ d _ => (t + 1 - intOf d).toNat)
            case atStart => exact ⟨0, Nat.zero_le _, rfl, rfl, by simp, HT3.out, HB3.out⟩
            case round =>
              obtain ⟨k, hk, rfl, rfl, rfl, hT, hb⟩ := hrel
              have HT := Lib.hid hT
              have HB := Lib.hid hb
              clear hT hb
              have hcb := cntF_bd (basB l 2) f k
              have hpb := cntF_bd (fun x => basB l 2 x && inB x g u) f k
              obtain ⟨⟨x0, x1⟩, ⟨y0, y1⟩, hl⟩ := HT.out
              by_cases hlt : f + (k : Int) ≤ t
              · have hdx : dayB (f + (k : Int)) = true := dayB_iff.2 ⟨by omega, by omega⟩
                have HI := Lib.hid (isWorkday_ref (f + (k : Int)) a n cap l wr hdx (HC.out.below HB.out) HN.out hn60)
                have HWI := Lib.hid (within_ref (f + (k : Int)) g u wr)
                cases hwx : basB l 2 (f + (k : Int))
                · have HC1 := Lib.hid (cntF_no (P := basB l 2) hwx)
                  have HC2 := Lib.hid (cntF_no (P := fun x => basB l 2 x && inB x g u) (f := f) (n := k) (by simp [hwx]))
                  have hwx' : workB l (f + (k : Int)) = false := hwx
                  rw [hwx'] at HI
                  go_wp2_with fail
                  refine HI.out.mono ?_
                  rintro e w5 ⟨rfl, h5⟩
                  subst w5
                  go_wp2_with fail
                  go_roundw
                  case rel => exact ⟨k + 1, by omega, by rw [HC1.out], by rw [HC2.out], by go_num, HT.out, HB.out⟩
                  case measure => simp [intOf] <;> omega
                · have HC1 := Lib.hid (cntF_yes (P := basB l 2) hwx)
                  cases hin : inB (f + (k : Int)) g u
                  · have HC2 := Lib.hid (cntF_no (P := fun x => basB l 2 x && inB x g u) (f := f) (n := k) (by simp [hin]))
                    rw [hin] at HWI
                    have hwx' : workB l (f + (k : Int)) = true := hwx
                    rw [hwx'] at HI
                    go_wp2_with fail
                    refine HI.out.mono ?_
                    rintro e w5 ⟨rfl, h5⟩
                    subst w5
                    go_wp2_with fail
                    refine HWI.out.mono ?_
                    rintro e w5 ⟨rfl, hb5⟩
                    have HB5 := Lib.hid (HB.out.trans (hb5.mono HB.out.size))
                    have HT5 := Lib.hid (HT.out.below hb5)
                    clear hb5
                    go_wp2_with fail
                    go_roundw
                    case rel => exact ⟨k + 1, by omega, by rw [HC1.out], by rw [HC2.out], by go_num, HT5.out, HB5.out⟩
                    case measure => simp [intOf] <;> omega
                  · have HC2 := Lib.hid (cntF_yes (P := fun x => basB l 2 x && inB x g u) (f := f) (n := k) (by simp [hwx, hin]))
                    rw [hin] at HWI
                    have hwx' : workB l (f + (k : Int)) = true := hwx
                    rw [hwx'] at HI
                    go_wp2_with fail
                    refine HI.out.mono ?_
                    rintro e w5 ⟨rfl, h5⟩
                    subst w5
                    go_wp2_with fail
                    refine HWI.out.mono ?_
                    rintro e w5 ⟨rfl, hb5⟩
                    have HB5 := Lib.hid (HB.out.trans (hb5.mono HB.out.size))
                    have HT5 := Lib.hid (HT.out.below hb5)
                    clear hb5
                    go_wp2_with fail
                    go_roundw
                    case rel => exact ⟨k + 1, by omega, by rw [HC1.out], by rw [HC2.out], by go_num, HT5.out, HB5.out⟩
                    case measure => simp [intOf] <;> omega
              · have hltB : decide (f + (k : Int) ≤ t) = false := decide_eq_false hlt
                have hke : k = (t - f + 1).toNat := by omega
                have HALL : Hid (cntF (basB l 2) f k = cntP l 2 f t) := by unfold Hid; rw [hke]; exact cntP_F l (by omega) (by omega)
                have HPART : Hid (max f g ≤ min t u → cntF (fun x => basB l 2 x && inB x g u) f k = cntP l 2 (max f g) (min t u)) := fun hov => by
                  rw [cntF_in, ← cntP_F l (show (2 : Int) = 1 ∨ (2 : Int) = 2 by omega) (by omega)]
                  congr 2
                  omega
                have HNONE : Hid (min t u < max f g → cntF (fun x => basB l 2 x && inB x g u) f k = 0) := fun hov => by
                  rw [cntF_in, show (min (f + (k : Int) - 1) u - max f g + 1).toNat = 0 from by omega]
                  rfl
                clear hke
                rw [HALL.out] at hcb
                rw [HALL.out]
                generalize cntF (fun x => basB l 2 x && inB x g u) f k = part at *
                have HP5 : Hid (cntP l 2 f t = 0 → ProIs l am f t g u 2 0 5) := fun h => .inr ⟨(show (2 : Int) = 1 ∨ (2 : Int) = 2 by omega), .inr ⟨hmo, hper, .inr ⟨hz, .inl ⟨h, rfl, rfl⟩⟩⟩⟩
                have HPX : Hid (cntP l 2 f t ≠ 0 → ProIs l am f t g u 2 (rd (am * part) (cntP l 2 f t) 5) 0) := fun h => by
                  by_cases hov : max f g ≤ min t u
                  · rw [HPART.out hov]
                    exact .inr ⟨(show (2 : Int) = 1 ∨ (2 : Int) = 2 by omega), .inr ⟨hmo, hper, .inr ⟨hz, .inr ⟨h, .inr ⟨hov, rfl, rfl⟩⟩⟩⟩⟩
                  · rw [HNONE.out (by omega), Int.mul_zero, rd_zero]
                    exact .inr ⟨(show (2 : Int) = 1 ∨ (2 : Int) = 2 by omega), .inr ⟨hmo, hper, .inr ⟨hz, .inr ⟨h, .inl ⟨by omega, rfl, rfl⟩⟩⟩⟩⟩
                generalize cntP l 2 f t = all at *
                by_cases hall0 : all = 0
                · have HP := Lib.hid (HP5.out hall0)
                  subst hall0
                  go_wp2_with fail
                  go_ret2
                  exact ⟨_, _, rfl, HP.out, HB.out⟩
                · have hall0B : decide (all = 0) = false := decide_eq_false hall0
                  have HP := Lib.hid (HPX.out hall0)
                  have hpb2 := prod_bd (a := am) (r := part) hmo0 hmo1 hpb.1 (by omega)
                  have hwr : IntKind.i64.wrap (am * part) = am * part := by rw [IntKind.wrap_i64]; omega
                  go_wp2_with fail
                  refine (rounded_ref (am * part) all 5 _ (by omega) (by omega) hpb2.1 hpb2.2 ⟨by omega, by omega⟩).mono ?_
                  rintro e w6 ⟨rfl, h6⟩
                  subst w6
                  go_wp2_with fail
                  go_ret2
                  exact ⟨_, _, rfl, HP.out, HB.out⟩
          · have hzB : decide (checkE l [f, t] = 0) = false := decide_eq_false hz
            have hcb := checkE_bd l [f, t]
            have HP : Hid (ProIs l am f t g u 2 0 (checkE l [f, t])) := .inr ⟨(show (2 : Int) = 1 ∨ (2 : Int) = 2 by omega), .inr ⟨hmo, hper, .inl ⟨hz, rfl, rfl⟩⟩⟩
            go_wp2_with fail
            go_ret2
            exact ⟨_, _, rfl, HP.out, HB3.out⟩
  · have HP : Hid (ProIs l am f t g u ba 0 7) := .inl ⟨hba, rfl, rfl⟩
    have h1B : decide (ba = 1) = false := decide_eq_false (fun e => hba (.inl e))
    have h2B : decide (ba = 2) = false := decide_eq_false (fun e => hba (.inr e))
    have h3B : (ba != 1) = true := by simp; exact fun e => hba (.inl e)
    have h4B : (ba != 2) = true := by simp; exact fun e => hba (.inr e)
    clear hba
    go_enter Try.func25, Try.ntmps25
    go_wp2_with fail
    go_ret2
    exact ⟨_, _, rfl, HP.out, HB0.out⟩
end Go.Proofs.Ytoaobblhmnikgaa
