/-
  The walk of the law HistorySame: it answers true at every list of rows and all ints.
-/
import Derived.Test.YtpcmdoaaombddaaHBegun
import Derived.Test.YtpcmdoaaombddaaHDiff
namespace Go.Proofs.Ytpcmdoaaombddaa
open Go.RowKit

theorem best_seen (l : List Rw) (d a b : Int) : ∀ k, (∀ j, j < k → ((rnth l j).seen ≤ a ↔ (rnth l j).seen ≤ b)) → best l d a k = best l d b k
  | 0, _ => rfl
  | k + 1, h => by
    rw [best, best, best_seen l d a b k (fun j hj => h j (by omega))]
    have hc := h k (by omega)
    by_cases e : (rnth l k).seen ≤ a
    · simp [e, hc.1 e]
    · have e2 : ¬ (rnth l k).seen ≤ b := fun h => e (hc.2 h)
      simp [e, e2]
/-- Was the row seen between the two days? -/
def btw (p q s : Int) : Prop := (p < s ∧ s ≤ q) ∨ (q < s ∧ s ≤ p)
theorem none_between {l : List Rw} {p q d : Int} (h : ∀ j, j < l.length → ¬ btw p q (rnth l j).seen) : diffB l p q d = false := by
  unfold diffB
  rw [best_seen l d p q _ (fun j hj => by have := h j hj; unfold btw at this; omega)]
  simp

set_option maxRecDepth 100000 in
set_option maxHeartbeats 2000000 in
theorem walk_historySame (w : World) (a : Option Addr) (n cap : Nat) (l : List Rw) (hc : CameR w a l) (hn : l.length = n) (hm : n ≤ maxLen) (_ : ∀ r ∈ l, RowWf r) (p : Int) (_ : (Lit.int .i64 p).wf = true) (q : Int) (_ : (Lit.int .i64 q).wf = true) (d : Int) (_ : (Lit.int .i64 d).wf = true) :
    Calls Try.prog 7 #[.slice a n cap, .int .i64 p, .int .i64 q, .int .i64 d] w fun e w' => e = .returned (.bool true) ∧ Below w.heap.size w w' := by
  have HO := Lib.hid (fun h0 => hc.open hn h0)
  have HC := Lib.hid hc
  have HN := Lib.hid hn
  have HM := Lib.hid hm
  clear hc hm
  go_enter Try.func7, Try.ntmps7
  go_wp2_with fail
  refine (begun_any _).mono ?_
  rintro e w0 ⟨rfl, hb0⟩
  have HB0 := Lib.hid hb0
  clear hb0
  go_wp2_with fail
  refine (Differs_any a n cap l p q w0 (HC.out.below HB0.out) HN.out HM.out).mono ?_
  rintro e w1 ⟨dn, ok, er, rfl, hA, hb1⟩
  have HB1 := Lib.hid (HB0.out.trans (hb1.mono HB0.out.size))
  clear hb1
  rcases hA with ⟨hz, rfl, rfl, rfl⟩ | ⟨hz, hF, rfl⟩
  · have hzB : decide (dayE l [p, q] = 0) = false := decide_eq_false hz
    go_wp2_with fail
    go_ret
    exact ⟨rfl, HB1.out⟩
  · have HF := Lib.hid hF
    obtain ⟨hh0, hpq⟩ := dayE_ok hz
    obtain ⟨hpd, hqd⟩ : dayB p = true ∧ dayB q = true := by simpa using hpq
    have hn50 : n ≤ 50 := by have := (histE_ok hh0).1; omega
    clear hF hz hpq hn
    go_wp2_with fail
    go_loopw [12, 13] (fun z i wr => ∃ (k : Nat) (bz : Bool), k ≤ n ∧ i = .int .i64 k ∧ z = .bool bz ∧ (bz = false → ∀ j, j < k → ¬ btw p q (rnth l j).seen) ∧ Below w.heap.size w wr) (fun _ i _ => n - (intOf i).toNat)
    case atStart => exact ⟨0, false, Nat.zero_le _, rfl, rfl, fun _ j hj => by omega, HB1.out⟩
    case round =>
      obtain ⟨k, bz, hk, rfl, rfl, hzz, hb⟩ := hrel
      have HZ := Lib.hid hzz
      have HB := Lib.hid hb
      clear hb hzz
      by_cases hlt : k < n
      · have hlt' : (k : Int) < (n : Int) := by omega
        obtain ⟨b, off, rfl, hcell⟩ := HO.out (by omega)
        obtain ⟨_, x1, _, _⟩ := hcell wr HB.out k hlt
        clear hcell
        cases bz
        · by_cases hpq : q < p
          · have hpq2 : ¬ (p < q) := by omega
            by_cases h1 : q < (rnth l k).seen
            · by_cases h2 : (rnth l k).seen ≤ p
              · have HT : Hid (true = false → ∀ j, j < k + 1 → ¬ btw p q (rnth l j).seen) := fun h => by cases h
                go_wp2_with fail
                go_roundw
                case rel => exact ⟨k + 1, true, by omega, by go_num, rfl, HT.out, HB.out⟩
                case measure => simp [intOf] <;> omega
              · have h2B : decide ((rnth l k).seen ≤ p) = false := decide_eq_false h2
                have HT : Hid (∀ j, j < k + 1 → ¬ btw p q (rnth l j).seen) := fun j hj => by
                  by_cases e : j = k
                  · subst e; unfold btw; omega
                  · exact HZ.out rfl j (by omega)
                go_wp2_with fail
                go_roundw
                case rel => exact ⟨k + 1, false, by omega, by go_num, rfl, fun _ => HT.out, HB.out⟩
                case measure => simp [intOf] <;> omega
            · have h1B : decide (q < (rnth l k).seen) = false := decide_eq_false h1
              have HT : Hid (∀ j, j < k + 1 → ¬ btw p q (rnth l j).seen) := fun j hj => by
                by_cases e : j = k
                · subst e; unfold btw; omega
                · exact HZ.out rfl j (by omega)
              go_wp2_with fail
              go_roundw
              case rel => exact ⟨k + 1, false, by omega, by go_num, rfl, fun _ => HT.out, HB.out⟩
              case measure => simp [intOf] <;> omega
          · by_cases hqp : p < q
            · by_cases h1 : p < (rnth l k).seen
              · by_cases h2 : (rnth l k).seen ≤ q
                · have HT : Hid (true = false → ∀ j, j < k + 1 → ¬ btw p q (rnth l j).seen) := fun h => by cases h
                  go_wp2_with fail
                  go_roundw
                  case rel => exact ⟨k + 1, true, by omega, by go_num, rfl, HT.out, HB.out⟩
                  case measure => simp [intOf] <;> omega
                · have h2B : decide ((rnth l k).seen ≤ q) = false := decide_eq_false h2
                  have HT : Hid (∀ j, j < k + 1 → ¬ btw p q (rnth l j).seen) := fun j hj => by
                    by_cases e : j = k
                    · subst e; unfold btw; omega
                    · exact HZ.out rfl j (by omega)
                  go_wp2_with fail
                  go_roundw
                  case rel => exact ⟨k + 1, false, by omega, by go_num, rfl, fun _ => HT.out, HB.out⟩
                  case measure => simp [intOf] <;> omega
              · have h1B : decide (p < (rnth l k).seen) = false := decide_eq_false h1
                have HT : Hid (∀ j, j < k + 1 → ¬ btw p q (rnth l j).seen) := fun j hj => by
                  by_cases e : j = k
                  · subst e; unfold btw; omega
                  · exact HZ.out rfl j (by omega)
                go_wp2_with fail
                go_roundw
                case rel => exact ⟨k + 1, false, by omega, by go_num, rfl, fun _ => HT.out, HB.out⟩
                case measure => simp [intOf] <;> omega
            · have hpq3 : p = q := by omega
              have HT : Hid (∀ j, j < k + 1 → ¬ btw p q (rnth l j).seen) := fun j hj => by unfold btw; omega
              clear hpq3
              by_cases h1 : p < (rnth l k).seen
              · have h2B : decide ((rnth l k).seen ≤ p) = false := decide_eq_false (by omega)
                go_wp2_with fail
                go_roundw
                case rel => exact ⟨k + 1, false, by omega, by go_num, rfl, fun _ => HT.out, HB.out⟩
                case measure => simp [intOf] <;> omega
              · have h1B : decide (p < (rnth l k).seen) = false := decide_eq_false h1
                go_wp2_with fail
                go_roundw
                case rel => exact ⟨k + 1, false, by omega, by go_num, rfl, fun _ => HT.out, HB.out⟩
                case measure => simp [intOf] <;> omega
        · have HT : Hid (true = false → ∀ j, j < k + 1 → ¬ btw p q (rnth l j).seen) := fun h => by cases h
          go_wp2_with fail
          go_roundw
          case rel => exact ⟨k + 1, true, by omega, by go_num, rfl, HT.out, HB.out⟩
          case measure => simp [intOf] <;> omega
      · have hkn : k = n := by omega
        subst hkn
        have HOK : Hid (bz = false → ok = false) := fun h => by
          rcases HF.out with ⟨_, _, _, f3, _⟩ | ⟨h, _⟩
          · rw [none_between (fun j hj => HZ.out h j (by rw [← HN.out]; exact hj))] at f3; cases f3
          · exact h
        clear HO HZ
        have HAT1 := Lib.hid (fun w hc => At_any a k cap l d p w hc HN.out HM.out)
        have HAT2 := Lib.hid (fun w hc => At_any a k cap l d q w hc HN.out HM.out)
        cases bz
        · obtain rfl := HOK.out rfl
          go_wp2_with fail
          refine (HAT1.out _ (HC.out.below HB.out)).mono ?_
          rintro e w3 ⟨v1, s1, e1, rfl, hA1, hb3⟩
          have HB3 := Lib.hid (HB.out.trans (hb3.mono HB.out.size))
          have HA1 := Lib.hid hA1
          clear hb3 hA1
          go_wp2_with fail
          refine (HAT2.out _ (HC.out.below HB3.out)).mono ?_
          rintro e w4 ⟨v2, s2, e2, rfl, hA2, hb4⟩
          have HB4 := Lib.hid (HB3.out.trans (hb4.mono HB3.out.size))
          have HA2 := Lib.hid hA2
          clear hb4 hA2
          by_cases hd : dayB d = true
          · have hd1 : dayE l [d, p] = 0 := by unfold dayE; rw [if_neg (by simp [hh0]), if_pos (by simp [hd, hpd])]
            have hd2 : dayE l [d, q] = 0 := by unfold dayE; rw [if_neg (by simp [hh0]), if_pos (by simp [hd, hqd])]
            obtain ⟨hv1, hs1, rfl⟩ : v1 = atV (best l d p l.length) ∧ s1 = atS (best l d p l.length) ∧ e1 = 0 := by
              rcases HA1.out with ⟨h, _⟩ | ⟨_, h1, h2, h3⟩
              · exact absurd hd1 h
              · exact ⟨h1, h2, h3⟩
            obtain ⟨hv2, hs2, rfl⟩ : v2 = atV (best l d q l.length) ∧ s2 = atS (best l d q l.length) ∧ e2 = 0 := by
              rcases HA2.out with ⟨h, _⟩ | ⟨_, h1, h2, h3⟩
              · exact absurd hd2 h
              · exact ⟨h1, h2, h3⟩
            have HD := Lib.hid (diffB_of (l := l) rfl hv1.symm hs1.symm hv2.symm hs2.symm)
            obtain ⟨hd0, hd9⟩ := dayB_iff.1 hd
            clear hd1 hd2 hv1 hs1 hv2 hs2 HA1 HA2 hd
            obtain f3 : ∀ j, 0 ≤ j → j ≤ 73048 → diffB l p q j = false := by
              rcases HF.out with ⟨hok, _⟩ | ⟨_, _, f3⟩
              · cases hok
              · exact f3
            have hne : (decide (v1 = v2) && (s1 == s2)) = true := by have := HD.out.symm.trans (f3 d hd0 hd9); simpa using this
            obtain ⟨rfl, rfl⟩ : v1 = v2 ∧ s1 = s2 := by simpa using hne
            clear f3 HD hne
            go_wp2_with fail
            all_goals go_ret
            all_goals exact ⟨cret_bool (by simp), HB4.out⟩
          · have hd1 : dayE l [d, p] ≠ 0 := by unfold dayE; rw [if_neg (by simp [hh0]), if_neg (by simp [hd])]; omega
            obtain rfl : e1 = dayE l [d, p] := by
              rcases HA1.out with ⟨_, _, _, h3⟩ | ⟨h, _⟩
              · exact h3
              · exact absurd h hd1
            have hd1B : decide (dayE l [d, p] = 0) = false := decide_eq_false hd1
            go_wp2_with fail
            all_goals go_ret
            all_goals exact ⟨rfl, HB4.out⟩
        · cases ok
          · go_wp2_with fail
            refine (HAT1.out _ (HC.out.below HB.out)).mono ?_
            rintro e w3 ⟨v1, s1, e1, rfl, hA1, hb3⟩
            have HB3 := Lib.hid (HB.out.trans (hb3.mono HB.out.size))
            have HA1 := Lib.hid hA1
            clear hb3 hA1
            go_wp2_with fail
            refine (HAT2.out _ (HC.out.below HB3.out)).mono ?_
            rintro e w4 ⟨v2, s2, e2, rfl, hA2, hb4⟩
            have HB4 := Lib.hid (HB3.out.trans (hb4.mono HB3.out.size))
            have HA2 := Lib.hid hA2
            clear hb4 hA2
            by_cases hd : dayB d = true
            · have hd1 : dayE l [d, p] = 0 := by unfold dayE; rw [if_neg (by simp [hh0]), if_pos (by simp [hd, hpd])]
              have hd2 : dayE l [d, q] = 0 := by unfold dayE; rw [if_neg (by simp [hh0]), if_pos (by simp [hd, hqd])]
              obtain ⟨hv1, hs1, rfl⟩ : v1 = atV (best l d p l.length) ∧ s1 = atS (best l d p l.length) ∧ e1 = 0 := by
                rcases HA1.out with ⟨h, _⟩ | ⟨_, h1, h2, h3⟩
                · exact absurd hd1 h
                · exact ⟨h1, h2, h3⟩
              obtain ⟨hv2, hs2, rfl⟩ : v2 = atV (best l d q l.length) ∧ s2 = atS (best l d q l.length) ∧ e2 = 0 := by
                rcases HA2.out with ⟨h, _⟩ | ⟨_, h1, h2, h3⟩
                · exact absurd hd2 h
                · exact ⟨h1, h2, h3⟩
              have HD := Lib.hid (diffB_of (l := l) rfl hv1.symm hs1.symm hv2.symm hs2.symm)
              obtain ⟨hd0, hd9⟩ := dayB_iff.1 hd
              clear hd1 hd2 hv1 hs1 hv2 hs2 HA1 HA2 hd
              obtain f3 : ∀ j, 0 ≤ j → j ≤ 73048 → diffB l p q j = false := by
                rcases HF.out with ⟨hok, _⟩ | ⟨_, _, f3⟩
                · cases hok
                · exact f3
              have hne : (decide (v1 = v2) && (s1 == s2)) = true := by have := HD.out.symm.trans (f3 d hd0 hd9); simpa using this
              obtain ⟨rfl, rfl⟩ : v1 = v2 ∧ s1 = s2 := by simpa using hne
              clear f3 HD hne
              go_wp2_with fail
              all_goals go_ret
              all_goals exact ⟨cret_bool (by simp), HB4.out⟩
            · have hd1 : dayE l [d, p] ≠ 0 := by unfold dayE; rw [if_neg (by simp [hh0]), if_neg (by simp [hd])]; omega
              obtain rfl : e1 = dayE l [d, p] := by
                rcases HA1.out with ⟨_, _, _, h3⟩ | ⟨h, _⟩
                · exact h3
                · exact absurd h hd1
              have hd1B : decide (dayE l [d, p] = 0) = false := decide_eq_false hd1
              go_wp2_with fail
              all_goals go_ret
              all_goals exact ⟨rfl, HB4.out⟩
          · go_wp2_with fail
            refine (HAT1.out _ (HC.out.below HB.out)).mono ?_
            rintro e w3 ⟨v1, s1, e1, rfl, hA1, hb3⟩
            have HB3 := Lib.hid (HB.out.trans (hb3.mono HB.out.size))
            have HA1 := Lib.hid hA1
            clear hb3 hA1
            go_wp2_with fail
            refine (HAT2.out _ (HC.out.below HB3.out)).mono ?_
            rintro e w4 ⟨v2, s2, e2, rfl, hA2, hb4⟩
            have HB4 := Lib.hid (HB3.out.trans (hb4.mono HB3.out.size))
            have HA2 := Lib.hid hA2
            clear hb4 hA2
            by_cases hd : dayB d = true
            · have hd1 : dayE l [d, p] = 0 := by unfold dayE; rw [if_neg (by simp [hh0]), if_pos (by simp [hd, hpd])]
              have hd2 : dayE l [d, q] = 0 := by unfold dayE; rw [if_neg (by simp [hh0]), if_pos (by simp [hd, hqd])]
              obtain ⟨hv1, hs1, rfl⟩ : v1 = atV (best l d p l.length) ∧ s1 = atS (best l d p l.length) ∧ e1 = 0 := by
                rcases HA1.out with ⟨h, _⟩ | ⟨_, h1, h2, h3⟩
                · exact absurd hd1 h
                · exact ⟨h1, h2, h3⟩
              obtain ⟨hv2, hs2, rfl⟩ : v2 = atV (best l d q l.length) ∧ s2 = atS (best l d q l.length) ∧ e2 = 0 := by
                rcases HA2.out with ⟨h, _⟩ | ⟨_, h1, h2, h3⟩
                · exact absurd hd2 h
                · exact ⟨h1, h2, h3⟩
              have HD := Lib.hid (diffB_of (l := l) rfl hv1.symm hs1.symm hv2.symm hs2.symm)
              obtain ⟨hd0, hd9⟩ := dayB_iff.1 hd
              clear hd1 hd2 hv1 hs1 hv2 hs2 HA1 HA2 hd
              obtain ⟨f1, f2, f3, f4⟩ : 0 ≤ dn ∧ dn ≤ 73048 ∧ diffB l p q dn = true ∧ ∀ j, 0 ≤ j → j < dn → diffB l p q j = false := by
                rcases HF.out with ⟨_, f1, f2, f3, f4⟩ | ⟨hok, _⟩
                · exact ⟨f1, f2, f3, f4⟩
                · cases hok
              by_cases hdn : d = dn
              · subst hdn
                have hne : (decide (v1 = v2) && (s1 == s2)) = false := by
                  have := HD.out.symm.trans f3
                  cases hx : (decide (v1 = v2) && (s1 == s2))
                  · rfl
                  · rw [hx] at this; cases this
                clear f3 f4 HD
                by_cases hv : v1 = v2
                · subst hv
                  cases s1 <;> cases s2 <;> simp at hne
                  all_goals go_wp2_with fail
                  all_goals go_ret
                  all_goals exact ⟨cret_bool (by simp), HB4.out⟩
                · have hvB : decide (v1 = v2) = false := decide_eq_false hv
                  go_wp2_with fail
                  all_goals go_ret
                  all_goals exact ⟨cret_bool (by simp), HB4.out⟩
              · have hdnB : decide (d = dn) = false := decide_eq_false hdn
                by_cases hlt : dn < d
                · clear f3 f4 HD
                  go_wp2_with fail
                  all_goals go_ret
                  all_goals exact ⟨cret_bool (by simp), HB4.out⟩
                · have hltB : decide (dn < d) = false := decide_eq_false hlt
                  have hne : (decide (v1 = v2) && (s1 == s2)) = true := by have := HD.out.symm.trans (f4 d hd0 (by omega)); simpa using this
                  obtain ⟨rfl, rfl⟩ : v1 = v2 ∧ s1 = s2 := by simpa using hne
                  clear f3 f4 HD hne
                  go_wp2_with fail
                  all_goals go_ret
                  all_goals exact ⟨cret_bool (by simp), HB4.out⟩
            · have hd1 : dayE l [d, p] ≠ 0 := by unfold dayE; rw [if_neg (by simp [hh0]), if_neg (by simp [hd])]; omega
              obtain rfl : e1 = dayE l [d, p] := by
                rcases HA1.out with ⟨_, _, _, h3⟩ | ⟨h, _⟩
                · exact h3
                · exact absurd h hd1
              have hd1B : decide (dayE l [d, p] = 0) = false := decide_eq_false hd1
              go_wp2_with fail
              all_goals go_ret
              all_goals exact ⟨rfl, HB4.out⟩
end Go.Proofs.Ytpcmdoaaombddaa
