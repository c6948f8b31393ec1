/-
  Promise P3: the walks of the reference's fits and line.
-/
import Derived.Test.YtdfgkngfpedgdaaDoorBBack
namespace Go.Proofs.YtdfgkngfpedgdaaDoor
open Go.RowKit

/-- May the byte at a place stand in a name's field that begins at f? What may stand where a form has the byte c? -/
def nmR (s : ByteArray) (a f : Nat) : Bool := (letB (bt s a) && (decide (a = f) || !decide (bt s (a - 1) = 46))) || (decide (bt s a = 46) && decide (f < a))
def fitR (s : ByteArray) (a f : Nat) (c : Int) : Bool := if c = 48 then digB (bt s a) else if c = 110 then nmR s a f else eqB c (bt s a)
theorem fitR_out {s : ByteArray} {a f : Nat} {c : Int} (h : ¬ a < s.size) (hc : 0 ≤ c) : fitR s a f c = false := by
  unfold fitR nmR
  rw [bt_out h]
  split
  · rfl
  · split
    · rfl
    · exact decide_eq_false (by omega)
set_option maxRecDepth 100000 in
set_option maxHeartbeats 1000000 in
theorem fits_ref (s : ByteArray) (a f : Nat) (c : Int) (w : World) (hc : 0 ≤ c ∧ c < 256) (hf : f ≤ a) (ha : a ≤ 1000000) :
    Calls Tryd.prog 60 #[.string s, .int .i64 (a : Int), .int .i64 (f : Int), .int .u8 c] w fun e w' => e = .returned (.bool (fitR s a f c)) ∧ w' = w := by
  by_cases h : a < s.size
  · have h' : (a : Int) < (s.size : Int) := by omega
    have hge : decide ((s.size : Int) ≤ (a : Int)) = false := decide_eq_false (by omega)
    have hge2 : decide (s.size ≤ a) = false := decide_eq_false (by omega)
    have hbt := bt_in h
    by_cases c48 : c = 48
    · have HE : Hid (fitR s a f c = digB (bt s a)) := if_pos c48
      have HD := Lib.hid (fun w => isDigit_ref s a w)
      subst c48
      generalize fitR s a f 48 = q at *
      clear hbt
      go_enter Tryd.func60, Tryd.ntmps60
      go_wp2_with fail
      refine (HD.out _).mono ?_
      rintro e w' ⟨rfl, h'⟩
      subst w'
      go_wp2_with fail
      go_ret
      exact ⟨tret_bool HE.out.symm, rfl⟩
    · have hc48 : decide (c = 48) = false := decide_eq_false c48
      by_cases c110 : c = 110
      · have HE : Hid (fitR s a f c = nmR s a f) := by unfold Hid fitR; rw [if_neg c48, if_pos c110]
        have HL := Lib.hid (fun w => isLetter_ref s a w)
        subst c110
        have HM : Hid (nmR s a f = ((letB (bt s a) && (decide (a = f) || !decide (bt s (a - 1) = 46))) || (decide (bt s a = 46) && decide (f < a)))) := rfl
        rw [HM.out] at HE
        generalize fitR s a f 110 = q at *
        generalize letB (bt s a) = lb at *
        rw [hbt] at HE
        clear HM hbt
        by_cases haf : a = f
        · subst haf
          have hlt : decide ((a : Int) < (a : Int)) = false := decide_eq_false (by omega)
          by_cases r46 : (s[a].toNat : Int) = 46
          · cases lb
            · go_enter Tryd.func60, Tryd.ntmps60
              go_wp2_with (go_at_call 56; refine (HL.out _).mono ?_; rintro e w' ⟨rfl, h'⟩; subst w')
              go_ret
              exact ⟨tret_bool (Eq.symm (by rw [HE.out, r46]; (simp <;> omega))), rfl⟩
            · go_enter Tryd.func60, Tryd.ntmps60
              go_wp2_with (go_at_call 56; refine (HL.out _).mono ?_; rintro e w' ⟨rfl, h'⟩; subst w')
              go_ret
              exact ⟨tret_bool (Eq.symm (by rw [HE.out, r46]; (simp <;> omega))), rfl⟩
          · have hr46 : decide ((s[a].toNat : Int) = 46) = false := decide_eq_false r46
            cases lb
            · go_enter Tryd.func60, Tryd.ntmps60
              go_wp2_with (go_at_call 56; refine (HL.out _).mono ?_; rintro e w' ⟨rfl, h'⟩; subst w')
              go_ret
              exact ⟨tret_bool (Eq.symm (by rw [HE.out, hr46]; (simp <;> omega))), rfl⟩
            · go_enter Tryd.func60, Tryd.ntmps60
              go_wp2_with (go_at_call 56; refine (HL.out _).mono ?_; rintro e w' ⟨rfl, h'⟩; subst w')
              go_ret
              exact ⟨tret_bool (Eq.symm (by rw [HE.out, hr46]; (simp <;> omega))), rfl⟩
        · obtain ⟨p, rfl⟩ : ∃ p, a = p + 1 := ⟨a - 1, by omega⟩
          have hp : p < s.size := by omega
          have hp' : (p : Int) < (s.size : Int) := by omega
          have hsub : ((p + 1 : Nat) : Int) - 1 = (p : Int) := by omega
          have hfa : ((f : Nat) : Int) < ((p + 1 : Nat) : Int) := by omega
          have hafI : decide (((p + 1 : Nat) : Int) = (f : Int)) = false := decide_eq_false (by omega)
          have hafN : decide (p + 1 = f) = false := decide_eq_false haf
          have hfN : decide (f < p + 1) = true := decide_eq_true (by omega)
          rw [show p + 1 - 1 = p by omega, bt_in hp, hafN, hfN] at HE
          by_cases p46 : (s[p].toNat : Int) = 46
          · by_cases r46 : (s[p + 1].toNat : Int) = 46
            · cases lb
              · go_enter Tryd.func60, Tryd.ntmps60
                go_wp2_with (go_at_call 56; refine (HL.out _).mono ?_; rintro e w' ⟨rfl, h'⟩; subst w')
                go_ret
                exact ⟨tret_bool (Eq.symm (by rw [HE.out, r46, p46]; (simp <;> omega))), rfl⟩
              · go_enter Tryd.func60, Tryd.ntmps60
                go_wp2_with (go_at_call 56; refine (HL.out _).mono ?_; rintro e w' ⟨rfl, h'⟩; subst w')
                go_ret
                exact ⟨tret_bool (Eq.symm (by rw [HE.out, r46, p46]; (simp <;> omega))), rfl⟩
            · have hr46 : decide ((s[p + 1].toNat : Int) = 46) = false := decide_eq_false r46
              cases lb
              · go_enter Tryd.func60, Tryd.ntmps60
                go_wp2_with (go_at_call 56; refine (HL.out _).mono ?_; rintro e w' ⟨rfl, h'⟩; subst w')
                go_ret
                exact ⟨tret_bool (Eq.symm (by rw [HE.out, hr46, p46]; (simp <;> omega))), rfl⟩
              · go_enter Tryd.func60, Tryd.ntmps60
                go_wp2_with (go_at_call 56; refine (HL.out _).mono ?_; rintro e w' ⟨rfl, h'⟩; subst w')
                go_ret
                exact ⟨tret_bool (Eq.symm (by rw [HE.out, hr46, p46]; (simp <;> omega))), rfl⟩
          · have hp46 : decide ((s[p].toNat : Int) = 46) = false := decide_eq_false p46
            by_cases r46 : (s[p + 1].toNat : Int) = 46
            · cases lb
              · go_enter Tryd.func60, Tryd.ntmps60
                go_wp2_with (go_at_call 56; refine (HL.out _).mono ?_; rintro e w' ⟨rfl, h'⟩; subst w')
                go_ret
                exact ⟨tret_bool (Eq.symm (by rw [HE.out, r46, hp46]; (simp <;> omega))), rfl⟩
              · go_enter Tryd.func60, Tryd.ntmps60
                go_wp2_with (go_at_call 56; refine (HL.out _).mono ?_; rintro e w' ⟨rfl, h'⟩; subst w')
                go_ret
                exact ⟨tret_bool (Eq.symm (by rw [HE.out, r46, hp46]; (simp <;> omega))), rfl⟩
            · have hr46 : decide ((s[p + 1].toNat : Int) = 46) = false := decide_eq_false r46
              cases lb
              · go_enter Tryd.func60, Tryd.ntmps60
                go_wp2_with (go_at_call 56; refine (HL.out _).mono ?_; rintro e w' ⟨rfl, h'⟩; subst w')
                go_ret
                exact ⟨tret_bool (Eq.symm (by rw [HE.out, hr46, hp46]; (simp <;> omega))), rfl⟩
              · go_enter Tryd.func60, Tryd.ntmps60
                go_wp2_with (go_at_call 56; refine (HL.out _).mono ?_; rintro e w' ⟨rfl, h'⟩; subst w')
                go_ret
                exact ⟨tret_bool (Eq.symm (by rw [HE.out, hr46, hp46]; (simp <;> omega))), rfl⟩
      · have HE : Hid (fitR s a f c = decide ((s[a].toNat : Int) = c)) := by unfold Hid fitR eqB; rw [if_neg c48, if_neg c110, hbt]
        have hc110 : decide (c = 110) = false := decide_eq_false c110
        generalize fitR s a f c = q at *
        clear hbt
        go_enter Tryd.func60, Tryd.ntmps60
        go_wp2_with fail
        go_ret
        exact ⟨tret_bool HE.out.symm, rfl⟩
  · have HE := Lib.hid (fitR_out (f := f) (c := c) h hc.1)
    have hge : (s.size : Int) ≤ (a : Int) := by omega
    generalize fitR s a f c = q at *
    go_enter Tryd.func60, Tryd.ntmps60
    go_wp2_with fail
    go_ret
    exact ⟨tret_bool HE.out.symm, rfl⟩
theorem fitR_any {s : ByteArray} {a f g : Nat} {c : Int} (h : c ≠ 110) : fitR s a f c = fitR s a g c := by
  unfold fitR
  split
  · rfl
  · rfl
/-- Does what stands j bytes behind k fit into a form whose name's field begins i0 bytes behind it? -/
def formQ (s : ByteArray) (k i0 : Nat) (fm : ByteArray) (j : Nat) : Bool := fitR s (k + j) (k + i0) (bt fm j)
def fromN (k i0 j : Nat) : Nat := if j ≤ i0 then k else k + i0
set_option maxRecDepth 100000 in
set_option maxHeartbeats 1000000 in
theorem line_ref (s fm : ByteArray) (k i0 i1 : Nat) (w : World) (hk : k ≤ 100000) (hm : fm.size ≤ 100) (hfm : ∀ i, i < fm.size → (bt fm i = 110 ↔ i0 ≤ i ∧ i < i1)) (h01 : fm.size ≤ i0 ∨ i0 < i1) (h0 : 1 ≤ i0) :
    Calls Tryd.prog 46 #[.string s, .int .i64 (k : Int), .string fm] w fun e w' => w' = w ∧ (((∀ j, j < fm.size → formQ s k i0 fm j = true) ∧ e = .returned (.tuple #[.int .i64 ((k : Int) + (fm.size : Int)), .bool true])) ∨ ∃ o, Stops (formQ s k i0 fm) fm.size o ∧ e = .returned (.tuple #[.int .i64 ((k : Int) + (o : Int)), .bool false])) := by
  have HFM := Lib.hid hfm
  clear hfm
  go_enter Tryd.func46, Tryd.ntmps46
  go_wp2_with fail
  go_loopw [8, 9] (fun f i wr => ∃ j : Nat, j ≤ fm.size ∧ i = .int .i64 j ∧ f = .int .i64 ((fromN k i0 j : Nat) : Int) ∧ wr = w ∧ ∀ q, q < j → formQ s k i0 fm q = true) (fun _ i _ => fm.size - (intOf i).toNat)
  case atStart => exact ⟨0, Nat.zero_le _, rfl, by simp [fromN], rfl, fun q hq => by omega⟩
  case round =>
    obtain ⟨j, hj0, rfl, rfl, rfl, hq⟩ := hrel
    have HQ := Lib.hid hq
    clear hq
    by_cases hj : j < fm.size
    · have hj' : (j : Int) < (fm.size : Int) := by omega
      have hbj := bt_in hj
      obtain ⟨a, ha⟩ : ∃ a, a = k + j := ⟨_, rfl⟩
      have hka : (k : Int) + (j : Int) = (a : Int) := by omega
      have HKA := Lib.hid hka
      have hak : k ≤ a := by omega
      have haj : a ≤ k + j := by omega
      obtain ⟨fr, hfr⟩ : ∃ fr, fromN k i0 j = fr := ⟨_, rfl⟩
      have hF0 : k ≤ fr ∧ fr ≤ a := by rw [← hfr, ha]; unfold fromN; split <;> omega
      by_cases c110 : (fm[j].toNat : Int) = 110
      · have hin := (HFM.out j hj).1 (by rw [hbj]; exact c110)
        have HNX : Hid (fromN k i0 (j + 1) = k + i0) := if_neg (by omega)
        rw [c110] at hbj
        obtain ⟨p, hpj⟩ : ∃ p, j = p + 1 := ⟨j - 1, by omega⟩
        have hp : p < fm.size := by omega
        have hp' : (p : Int) < (fm.size : Int) := by omega
        have hsub : (j : Int) - 1 = (p : Int) := by omega
        have hj0' : decide ((j : Int) = 0) = false := decide_eq_false (by omega)
        have hj0n : decide (j = 0) = false := decide_eq_false (by omega)
        by_cases ji : j = i0
        · have hp110 : decide ((fm[p].toNat : Int) = 110) = false := decide_eq_false (fun e => by have := (HFM.out p hp).1 (by rw [bt_in hp]; exact e); omega)
          have hp1n : (fm[p].toNat != 110) = true := by simp; intro e; have := of_decide_eq_false hp110; omega
          have hp1i : ((fm[p].toNat : Int) != 110) = true := by simp; intro e; have := of_decide_eq_false hp110; omega
          have HFQ : Hid (fitR s a a 110 = formQ s k i0 fm j) := by unfold Hid formQ; rw [hbj, ← ji, ← ha]
          have HNY : Hid (k + i0 = a) := by unfold Hid; omega
          rw [HNY.out] at HNX
          rw [hfr]
          clear hbj hpj ji ha hin hfr
          go_wp2_with fail
          refine (fits_ref s a a _ _ (by omega) (by omega) (by omega)).mono ?_
          rintro e w' ⟨rfl, h'⟩
          subst w'
          rw [HFQ.out]
          cases hq : formQ s k i0 fm j
          · go_wp2_with fail
            go_ret2
            exact ⟨rfl, .inr ⟨j, ⟨hj, HQ.out, hq⟩, by rw [HKA.out]; rfl⟩⟩
          · go_wp2_with fail
            go_roundw
            case rel =>
              refine ⟨j + 1, by omega, by go_num, by rw [HNX.out]; try rfl, (by first | trivial | rfl), fun q hq' => ?_⟩
              rcases (show q < j ∨ q = j by omega) with h | rfl
              · exact HQ.out q h
              · exact hq
            case measure => simp [intOf]; omega
        · have hp110 : (fm[p].toNat : Int) = 110 := by rw [← bt_in hp]; exact (HFM.out p hp).2 (by omega)
          have HFQ : Hid (fitR s a fr 110 = formQ s k i0 fm j) := by unfold Hid formQ; rw [hbj, ← ha, ← hfr, show fromN k i0 j = k + i0 from if_neg (by omega)]
          have HNY : Hid (k + i0 = fr) := by unfold Hid; rw [← hfr]; exact (if_neg (by omega)).symm
          rw [HNY.out] at HNX
          rw [hfr]
          clear hbj hpj ji ha hin hfr
          go_wp2_with fail
          refine (fits_ref s a fr _ _ (by omega) (by omega) (by omega)).mono ?_
          rintro e w' ⟨rfl, h'⟩
          subst w'
          rw [HFQ.out]
          cases hq : formQ s k i0 fm j
          · go_wp2_with fail
            go_ret2
            exact ⟨rfl, .inr ⟨j, ⟨hj, HQ.out, hq⟩, by rw [HKA.out]; rfl⟩⟩
          · go_wp2_with fail
            go_roundw
            case rel =>
              refine ⟨j + 1, by omega, by go_num, by rw [HNX.out]; try rfl, (by first | trivial | rfl), fun q hq' => ?_⟩
              rcases (show q < j ∨ q = j by omega) with h | rfl
              · exact HQ.out q h
              · exact hq
            case measure => simp [intOf]; omega
      · have hcB : decide ((fm[j].toNat : Int) = 110) = false := decide_eq_false c110
        have hnot : ¬ (i0 ≤ j ∧ j < i1) := fun h => c110 (by rw [← hbj]; exact (HFM.out j hj).2 h)
        have HNX : Hid (fromN k i0 (j + 1) = fr) := by
          unfold Hid
          rw [← hfr]
          unfold fromN
          by_cases e : j + 1 ≤ i0
          · rw [if_pos e, if_pos (by omega)]
          · rw [if_neg e, if_neg (by omega)]
        have HFQ : Hid (fitR s a fr (fm[j].toNat : Int) = formQ s k i0 fm j) := by unfold Hid formQ; rw [hbj, ← ha]; exact fitR_any c110
        have hc256 : (fm[j].toNat : Int) < 256 := by have := fm[j].toNat_lt; omega
        rw [hfr]
        clear hbj ha hnot hfr
        go_wp2_with fail
        refine (fits_ref s a fr _ _ (by omega) (by omega) (by omega)).mono ?_
        rintro e w' ⟨rfl, h'⟩
        subst w'
        rw [HFQ.out]
        cases hq : formQ s k i0 fm j
        · go_wp2_with fail
          go_ret2
          exact ⟨rfl, .inr ⟨j, ⟨hj, HQ.out, hq⟩, by rw [HKA.out]; rfl⟩⟩
        · go_wp2_with fail
          go_roundw
          case rel =>
            refine ⟨j + 1, by omega, by go_num, by rw [HNX.out]; try rfl, (by first | trivial | rfl), fun q hq' => ?_⟩
            rcases (show q < j ∨ q = j by omega) with h | rfl
            · exact HQ.out q h
            · exact hq
          case measure => simp [intOf]; omega
    · obtain rfl : j = fm.size := by omega
      have hjB : decide ((fm.size : Int) < (fm.size : Int)) = false := decide_eq_false (by omega)
      go_wp2_with fail
      go_ret2
      exact ⟨rfl, .inl ⟨HQ.out, rfl⟩⟩
end Go.Proofs.YtdfgkngfpedgdaaDoor
