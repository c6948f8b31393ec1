/-
  Promise E1: words and names: walks of the reference's IsWord, IsLetter and IsName, and of IsName.
-/
import Derived.Test.YtmchanddfodhaaaDoorTWord
namespace Go.Proofs.YtmchanddfodhaaaDoor
open Go.RowKit

theorem wordB_all {s : ByteArray} (h : ∀ q, q < 12 → s.toList ≠ wordsL[q]!) : wordB s = false :=
  wordB_no s (h 0 (by omega)) (h 1 (by omega)) (h 2 (by omega)) (h 3 (by omega)) (h 4 (by omega)) (h 5 (by omega)) (h 6 (by omega)) (h 7 (by omega)) (h 8 (by omega)) (h 9 (by omega)) (h 10 (by omega)) (h 11 (by omega))
set_option maxRecDepth 100000 in
set_option maxHeartbeats 2000000 in
theorem isWord_ref (s : ByteArray) (w : World) : Calls Tryd.prog 43 #[.string s] w fun e w' => e = .returned (.bool (wordB s)) ∧ Below w.heap.size w w' := by
  have HB := Lib.hid ((Below.refl w.heap.size w).alloc (Nat.le_refl _) (.cells #[.string ⟨#[101, 97, 114, 110]⟩, .string ⟨#[116, 97, 107, 101]⟩, .string ⟨#[116, 97, 120]⟩, .string ⟨#[108, 101, 116]⟩, .string ⟨#[105, 102]⟩, .string ⟨#[116, 104, 101, 110]⟩, .string ⟨#[101, 108, 115, 101]⟩, .string ⟨#[111, 102]⟩, .string ⟨#[121, 101, 97, 114]⟩, .string ⟨#[116, 97, 98, 108, 101]⟩, .string ⟨#[109, 105, 110]⟩, .string ⟨#[109, 97, 120]⟩] 9))
  go_enter Tryd.func43, Tryd.ntmps43
  go_wp2_with fail
  go_loop [4] (fun i => ∃ k : Nat, k ≤ 12 ∧ i = .int .i64 k ∧ ∀ j, j < k → s.toList ≠ wordsL[j]!) (fun i => 12 - (intOf i).toNat)
  case atStart => exact ⟨0, by omega, rfl, fun j hj => absurd hj (by omega)⟩
  case round =>
    obtain ⟨k, hk, rfl, hall⟩ := hrel
    have HA := Lib.hid hall
    clear hall
    by_cases hlt : k < 12
    · have hkk : k = 0 ∨ k = 1 ∨ k = 2 ∨ k = 3 ∨ k = 4 ∨ k = 5 ∨ k = 6 ∨ k = 7 ∨ k = 8 ∨ k = 9 ∨ k = 10 ∨ k = 11 := by omega
      rcases hkk with rfl | rfl | rfl | rfl | rfl | rfl | rfl | rfl | rfl | rfl | rfl | rfl
      · have HS : Hid (∀ j, j < 0 + 1 → s.toList ≠ wordsL[0]! → ∀ q, q < 0 + 1 → s.toList ≠ wordsL[q]!) := fun j _ h q hq => by
          rcases (show q < 0 ∨ q = 0 by omega) with e | rfl
          · exact HA.out q e
          · exact h
        by_cases h : s.toList = [101, 97, 114, 110]
        · have HE : Hid (wordB s = true) := by unfold Hid wordB; rw [h]; decide
          have hT : ([101, 97, 114, 110] == s.toList) = true := by rw [h]; decide
          have hT' : (s.toList == [101, 97, 114, 110]) = true := by rw [h]; decide
          clear h HS
          go_wp2_with fail
          go_ret
          exact ⟨tret_bool HE.out.symm, HB.out⟩
        · have hF : ([101, 97, 114, 110] == s.toList) = false := by simpa using fun e => h e.symm
          have hF' : (s.toList == [101, 97, 114, 110]) = false := by simpa using h
          have HN := Lib.hid (HS.out 0 (by omega) h)
          clear h HS
          go_wp2_with fail
          go_round
          case rel => exact ⟨0 + 1, by omega, by go_num, HN.out⟩
          case measure => simp [intOf]
      · have HS : Hid (∀ j, j < 1 + 1 → s.toList ≠ wordsL[1]! → ∀ q, q < 1 + 1 → s.toList ≠ wordsL[q]!) := fun j _ h q hq => by
          rcases (show q < 1 ∨ q = 1 by omega) with e | rfl
          · exact HA.out q e
          · exact h
        by_cases h : s.toList = [116, 97, 107, 101]
        · have HE : Hid (wordB s = true) := by unfold Hid wordB; rw [h]; decide
          have hT : ([116, 97, 107, 101] == s.toList) = true := by rw [h]; decide
          have hT' : (s.toList == [116, 97, 107, 101]) = true := by rw [h]; decide
          clear h HS
          go_wp2_with fail
          go_ret
          exact ⟨tret_bool HE.out.symm, HB.out⟩
        · have hF : ([116, 97, 107, 101] == s.toList) = false := by simpa using fun e => h e.symm
          have hF' : (s.toList == [116, 97, 107, 101]) = false := by simpa using h
          have HN := Lib.hid (HS.out 1 (by omega) h)
          clear h HS
          go_wp2_with fail
          go_round
          case rel => exact ⟨1 + 1, by omega, by go_num, HN.out⟩
          case measure => simp [intOf]
      · have HS : Hid (∀ j, j < 2 + 1 → s.toList ≠ wordsL[2]! → ∀ q, q < 2 + 1 → s.toList ≠ wordsL[q]!) := fun j _ h q hq => by
          rcases (show q < 2 ∨ q = 2 by omega) with e | rfl
          · exact HA.out q e
          · exact h
        by_cases h : s.toList = [116, 97, 120]
        · have HE : Hid (wordB s = true) := by unfold Hid wordB; rw [h]; decide
          have hT : ([116, 97, 120] == s.toList) = true := by rw [h]; decide
          have hT' : (s.toList == [116, 97, 120]) = true := by rw [h]; decide
          clear h HS
          go_wp2_with fail
          go_ret
          exact ⟨tret_bool HE.out.symm, HB.out⟩
        · have hF : ([116, 97, 120] == s.toList) = false := by simpa using fun e => h e.symm
          have hF' : (s.toList == [116, 97, 120]) = false := by simpa using h
          have HN := Lib.hid (HS.out 2 (by omega) h)
          clear h HS
          go_wp2_with fail
          go_round
          case rel => exact ⟨2 + 1, by omega, by go_num, HN.out⟩
          case measure => simp [intOf]
      · have HS : Hid (∀ j, j < 3 + 1 → s.toList ≠ wordsL[3]! → ∀ q, q < 3 + 1 → s.toList ≠ wordsL[q]!) := fun j _ h q hq => by
          rcases (show q < 3 ∨ q = 3 by omega) with e | rfl
          · exact HA.out q e
          · exact h
        by_cases h : s.toList = [108, 101, 116]
        · have HE : Hid (wordB s = true) := by unfold Hid wordB; rw [h]; decide
          have hT : ([108, 101, 116] == s.toList) = true := by rw [h]; decide
          have hT' : (s.toList == [108, 101, 116]) = true := by rw [h]; decide
          clear h HS
          go_wp2_with fail
          go_ret
          exact ⟨tret_bool HE.out.symm, HB.out⟩
        · have hF : ([108, 101, 116] == s.toList) = false := by simpa using fun e => h e.symm
          have hF' : (s.toList == [108, 101, 116]) = false := by simpa using h
          have HN := Lib.hid (HS.out 3 (by omega) h)
          clear h HS
          go_wp2_with fail
          go_round
          case rel => exact ⟨3 + 1, by omega, by go_num, HN.out⟩
          case measure => simp [intOf]
      · have HS : Hid (∀ j, j < 4 + 1 → s.toList ≠ wordsL[4]! → ∀ q, q < 4 + 1 → s.toList ≠ wordsL[q]!) := fun j _ h q hq => by
          rcases (show q < 4 ∨ q = 4 by omega) with e | rfl
          · exact HA.out q e
          · exact h
        by_cases h : s.toList = [105, 102]
        · have HE : Hid (wordB s = true) := by unfold Hid wordB; rw [h]; decide
          have hT : ([105, 102] == s.toList) = true := by rw [h]; decide
          have hT' : (s.toList == [105, 102]) = true := by rw [h]; decide
          clear h HS
          go_wp2_with fail
          go_ret
          exact ⟨tret_bool HE.out.symm, HB.out⟩
        · have hF : ([105, 102] == s.toList) = false := by simpa using fun e => h e.symm
          have hF' : (s.toList == [105, 102]) = false := by simpa using h
          have HN := Lib.hid (HS.out 4 (by omega) h)
          clear h HS
          go_wp2_with fail
          go_round
          case rel => exact ⟨4 + 1, by omega, by go_num, HN.out⟩
          case measure => simp [intOf]
      · have HS : Hid (∀ j, j < 5 + 1 → s.toList ≠ wordsL[5]! → ∀ q, q < 5 + 1 → s.toList ≠ wordsL[q]!) := fun j _ h q hq => by
          rcases (show q < 5 ∨ q = 5 by omega) with e | rfl
          · exact HA.out q e
          · exact h
        by_cases h : s.toList = [116, 104, 101, 110]
        · have HE : Hid (wordB s = true) := by unfold Hid wordB; rw [h]; decide
          have hT : ([116, 104, 101, 110] == s.toList) = true := by rw [h]; decide
          have hT' : (s.toList == [116, 104, 101, 110]) = true := by rw [h]; decide
          clear h HS
          go_wp2_with fail
          go_ret
          exact ⟨tret_bool HE.out.symm, HB.out⟩
        · have hF : ([116, 104, 101, 110] == s.toList) = false := by simpa using fun e => h e.symm
          have hF' : (s.toList == [116, 104, 101, 110]) = false := by simpa using h
          have HN := Lib.hid (HS.out 5 (by omega) h)
          clear h HS
          go_wp2_with fail
          go_round
          case rel => exact ⟨5 + 1, by omega, by go_num, HN.out⟩
          case measure => simp [intOf]
      · have HS : Hid (∀ j, j < 6 + 1 → s.toList ≠ wordsL[6]! → ∀ q, q < 6 + 1 → s.toList ≠ wordsL[q]!) := fun j _ h q hq => by
          rcases (show q < 6 ∨ q = 6 by omega) with e | rfl
          · exact HA.out q e
          · exact h
        by_cases h : s.toList = [101, 108, 115, 101]
        · have HE : Hid (wordB s = true) := by unfold Hid wordB; rw [h]; decide
          have hT : ([101, 108, 115, 101] == s.toList) = true := by rw [h]; decide
          have hT' : (s.toList == [101, 108, 115, 101]) = true := by rw [h]; decide
          clear h HS
          go_wp2_with fail
          go_ret
          exact ⟨tret_bool HE.out.symm, HB.out⟩
        · have hF : ([101, 108, 115, 101] == s.toList) = false := by simpa using fun e => h e.symm
          have hF' : (s.toList == [101, 108, 115, 101]) = false := by simpa using h
          have HN := Lib.hid (HS.out 6 (by omega) h)
          clear h HS
          go_wp2_with fail
          go_round
          case rel => exact ⟨6 + 1, by omega, by go_num, HN.out⟩
          case measure => simp [intOf]
      · have HS : Hid (∀ j, j < 7 + 1 → s.toList ≠ wordsL[7]! → ∀ q, q < 7 + 1 → s.toList ≠ wordsL[q]!) := fun j _ h q hq => by
          rcases (show q < 7 ∨ q = 7 by omega) with e | rfl
          · exact HA.out q e
          · exact h
        by_cases h : s.toList = [111, 102]
        · have HE : Hid (wordB s = true) := by unfold Hid wordB; rw [h]; decide
          have hT : ([111, 102] == s.toList) = true := by rw [h]; decide
          have hT' : (s.toList == [111, 102]) = true := by rw [h]; decide
          clear h HS
          go_wp2_with fail
          go_ret
          exact ⟨tret_bool HE.out.symm, HB.out⟩
        · have hF : ([111, 102] == s.toList) = false := by simpa using fun e => h e.symm
          have hF' : (s.toList == [111, 102]) = false := by simpa using h
          have HN := Lib.hid (HS.out 7 (by omega) h)
          clear h HS
          go_wp2_with fail
          go_round
          case rel => exact ⟨7 + 1, by omega, by go_num, HN.out⟩
          case measure => simp [intOf]
      · have HS : Hid (∀ j, j < 8 + 1 → s.toList ≠ wordsL[8]! → ∀ q, q < 8 + 1 → s.toList ≠ wordsL[q]!) := fun j _ h q hq => by
          rcases (show q < 8 ∨ q = 8 by omega) with e | rfl
          · exact HA.out q e
          · exact h
        by_cases h : s.toList = [121, 101, 97, 114]
        · have HE : Hid (wordB s = true) := by unfold Hid wordB; rw [h]; decide
          have hT : ([121, 101, 97, 114] == s.toList) = true := by rw [h]; decide
          have hT' : (s.toList == [121, 101, 97, 114]) = true := by rw [h]; decide
          clear h HS
          go_wp2_with fail
          go_ret
          exact ⟨tret_bool HE.out.symm, HB.out⟩
        · have hF : ([121, 101, 97, 114] == s.toList) = false := by simpa using fun e => h e.symm
          have hF' : (s.toList == [121, 101, 97, 114]) = false := by simpa using h
          have HN := Lib.hid (HS.out 8 (by omega) h)
          clear h HS
          go_wp2_with fail
          go_round
          case rel => exact ⟨8 + 1, by omega, by go_num, HN.out⟩
          case measure => simp [intOf]
      · have HS : Hid (∀ j, j < 9 + 1 → s.toList ≠ wordsL[9]! → ∀ q, q < 9 + 1 → s.toList ≠ wordsL[q]!) := fun j _ h q hq => by
          rcases (show q < 9 ∨ q = 9 by omega) with e | rfl
          · exact HA.out q e
          · exact h
        by_cases h : s.toList = [116, 97, 98, 108, 101]
        · have HE : Hid (wordB s = true) := by unfold Hid wordB; rw [h]; decide
          have hT : ([116, 97, 98, 108, 101] == s.toList) = true := by rw [h]; decide
          have hT' : (s.toList == [116, 97, 98, 108, 101]) = true := by rw [h]; decide
          clear h HS
          go_wp2_with fail
          go_ret
          exact ⟨tret_bool HE.out.symm, HB.out⟩
        · have hF : ([116, 97, 98, 108, 101] == s.toList) = false := by simpa using fun e => h e.symm
          have hF' : (s.toList == [116, 97, 98, 108, 101]) = false := by simpa using h
          have HN := Lib.hid (HS.out 9 (by omega) h)
          clear h HS
          go_wp2_with fail
          go_round
          case rel => exact ⟨9 + 1, by omega, by go_num, HN.out⟩
          case measure => simp [intOf]
      · have HS : Hid (∀ j, j < 10 + 1 → s.toList ≠ wordsL[10]! → ∀ q, q < 10 + 1 → s.toList ≠ wordsL[q]!) := fun j _ h q hq => by
          rcases (show q < 10 ∨ q = 10 by omega) with e | rfl
          · exact HA.out q e
          · exact h
        by_cases h : s.toList = [109, 105, 110]
        · have HE : Hid (wordB s = true) := by unfold Hid wordB; rw [h]; decide
          have hT : ([109, 105, 110] == s.toList) = true := by rw [h]; decide
          have hT' : (s.toList == [109, 105, 110]) = true := by rw [h]; decide
          clear h HS
          go_wp2_with fail
          go_ret
          exact ⟨tret_bool HE.out.symm, HB.out⟩
        · have hF : ([109, 105, 110] == s.toList) = false := by simpa using fun e => h e.symm
          have hF' : (s.toList == [109, 105, 110]) = false := by simpa using h
          have HN := Lib.hid (HS.out 10 (by omega) h)
          clear h HS
          go_wp2_with fail
          go_round
          case rel => exact ⟨10 + 1, by omega, by go_num, HN.out⟩
          case measure => simp [intOf]
      · have HS : Hid (∀ j, j < 11 + 1 → s.toList ≠ wordsL[11]! → ∀ q, q < 11 + 1 → s.toList ≠ wordsL[q]!) := fun j _ h q hq => by
          rcases (show q < 11 ∨ q = 11 by omega) with e | rfl
          · exact HA.out q e
          · exact h
        by_cases h : s.toList = [109, 97, 120]
        · have HE : Hid (wordB s = true) := by unfold Hid wordB; rw [h]; decide
          have hT : ([109, 97, 120] == s.toList) = true := by rw [h]; decide
          have hT' : (s.toList == [109, 97, 120]) = true := by rw [h]; decide
          clear h HS
          go_wp2_with fail
          go_ret
          exact ⟨tret_bool HE.out.symm, HB.out⟩
        · have hF : ([109, 97, 120] == s.toList) = false := by simpa using fun e => h e.symm
          have hF' : (s.toList == [109, 97, 120]) = false := by simpa using h
          have HN := Lib.hid (HS.out 11 (by omega) h)
          clear h HS
          go_wp2_with fail
          go_round
          case rel => exact ⟨11 + 1, by omega, by go_num, HN.out⟩
          case measure => simp [intOf]
    · obtain rfl : k = 12 := by omega
      have HE := Lib.hid (wordB_all HA.out)
      go_wp2_with fail
      go_ret
      exact ⟨tret_bool HE.out.symm, HB.out⟩
/-- Is a letter, a digit there? -/
def letAt (s : ByteArray) (j : Nat) : Bool := letB (bt s j)
def digAt (s : ByteArray) (j : Nat) : Bool := digB (bt s j)
theorem isLetter_refN (s : ByteArray) (j : Nat) (w : World) : Calls Tryd.prog 42 #[.string s, .int .i64 (j : Int)] w fun e w' => e = .returned (.bool (letAt s j)) ∧ w' = w := by
  by_cases h : j < s.size
  · have hb := bt_in h
    have h' : (j : Int) < (s.size : Int) := by omega
    by_cases h1 : 97 ≤ (s[j].toNat : Int)
    · by_cases h2 : (s[j].toNat : Int) ≤ 122
      · have H : Hid (letAt s j = true) := by unfold Hid letAt letB; rw [hb]; exact decide_eq_true ⟨h1, h2⟩
        clear hb
        go_enter Tryd.func42, Tryd.ntmps42
        go_wp2
        go_ret
        exact ⟨tret_bool (by rw [H.out]; try (simp <;> omega)), rfl⟩
      · have H : Hid (letAt s j = false) := by unfold Hid letAt letB; rw [hb]; exact decide_eq_false (by omega)
        clear hb
        go_enter Tryd.func42, Tryd.ntmps42
        go_wp2
        go_ret
        exact ⟨tret_bool (by rw [H.out]; try (simp <;> omega)), rfl⟩
    · have H : Hid (letAt s j = false) := by unfold Hid letAt letB; rw [hb]; exact decide_eq_false (by omega)
      have hd : decide (97 ≤ (s[j].toNat : Int)) = false := decide_eq_false h1
      clear hb
      go_enter Tryd.func42, Tryd.ntmps42
      go_wp2
      go_ret
      exact ⟨tret_bool (by rw [H.out]; try (simp <;> omega)), rfl⟩
  · have H : Hid (letAt s j = false) := by unfold Hid letAt letB; rw [bt_out h]; exact decide_eq_false (by omega)
    have hd : decide ((j : Int) < (s.size : Int)) = false := decide_eq_false (by omega)
    go_enter Tryd.func42, Tryd.ntmps42
    go_wp2
    go_ret
    exact ⟨tret_bool (by rw [H.out]; try (simp <;> omega)), rfl⟩
theorem isLetter_ref (s : ByteArray) (j : Int) (w : World) (h : 0 ≤ j) : Calls Tryd.prog 42 #[.string s, .int .i64 j] w fun e w' => e = .returned (.bool (letAt s j.toNat)) ∧ w' = w := by
  obtain ⟨m, rfl⟩ := Int.eq_ofNat_of_zero_le h
  exact isLetter_refN s m w
end Go.Proofs.YtmchanddfodhaaaDoor
