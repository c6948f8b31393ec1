/-
  Promise E1: names: walks of IsName and of the reference's IsName.
-/
import Derived.Test.YtmchanddfodhaaaDoorTName
import Derived.Laws.Closers25b
namespace Go.Proofs.YtmchanddfodhaaaDoor
open Go.RowKit

/-- Is a text a name? -/
def NameP (s : ByteArray) : Prop := 1 ≤ s.size ∧ s.size ≤ 8 ∧ (∀ j, j < s.size → letB (bt s j) = true) ∧ wordB s = false
theorem span_all {P : Int → Bool} {s : ByteArray} {n : Nat} (h : SpanIs P s n) : n = s.size ↔ ∀ j, j < s.size → P (bt s j) = true := by
  constructor
  · rintro rfl
    exact h.2.1
  · intro h'
    by_cases e : n < s.size
    · have := h.2.2 e
      rw [h' n e] at this
      cases this
    · have := h.1; omega
/-- A call that tells whether P. -/
def Says (P : Prop) (w : World) (e : Ending) (w' : World) : Prop := ∃ b : Bool, e = .returned (.bool b) ∧ (b = true ↔ P) ∧ Below w.heap.size w w'
theorem Says.no {P : Prop} {w w' : World} (h : ¬ P) (hb : Below w.heap.size w w') : Says P w (.returned (.bool false)) w' := ⟨false, rfl, ⟨fun h => (by cases h), fun h' => absurd h' h⟩, hb⟩
theorem Says.yes {P : Prop} {w w' : World} (h : P) (hb : Below w.heap.size w w') : Says P w (.returned (.bool true)) w' := ⟨true, rfl, ⟨fun _ => h, fun _ => rfl⟩, hb⟩
set_option maxRecDepth 100000 in
set_option maxHeartbeats 1000000 in
theorem IsName_any (s : ByteArray) (w : World) : Calls Tryd.prog 32 #[.string s] w fun e w' => Says (NameP s) w e w' := by
  by_cases h0 : s.size = 0
  · have HE : Hid (¬ NameP s) := fun h => by have := h.1; omega
    have hs : s = ByteArray.empty := ByteArray.size_eq_zero_iff.1 h0
    subst hs
    go_enter Tryd.func32, Tryd.ntmps32
    go_wp2_with fail
    go_ret
    exact Says.no HE.out (Below.refl _ _)
  · have hie : s.toList.isEmpty = false := by
      cases h : s.toList with
      | nil => exact absurd ((toList_nil_iff_emptyBytes s).1 h) (fun e => h0 (by rw [e]; rfl))
      | cons x l => rfl
    by_cases h8 : s.size ≤ 8
    · have h8' : (s.size : Int) ≤ 8 := by omega
      go_enter Tryd.func32, Tryd.ntmps32
      go_wp2_with fail
      refine (letters_any s w).mono ?_
      rintro e w1 ⟨n, rfl, hsp, hb1⟩
      have HB1 := Lib.hid hb1
      have HAL := Lib.hid (span_all hsp)
      clear hb1 hsp
      by_cases hall : n = s.size
      · subst hall
        have HALL := Lib.hid (HAL.out.1 rfl)
        have HW := Lib.hid (fun w => isWord_any s w)
        have HNP : Hid (NameP s ↔ wordB s = false) := ⟨fun h => h.2.2.2, fun h => ⟨by omega, h8, HALL.out, h⟩⟩
        clear HAL HALL
        cases hw : wordB s
        · rw [hw] at HW
          have HY := Lib.hid (HNP.out.2 hw)
          clear hw HNP
          go_wp2_with fail
          refine (HW.out _).mono ?_
          rintro e w2 ⟨rfl, h2⟩
          subst w2
          go_wp2_with fail
          go_ret
          exact Says.yes HY.out HB1.out
        · rw [hw] at HW
          have HY : Hid (¬ NameP s) := fun h => by rw [HNP.out.1 h] at hw; cases hw
          clear hw HNP
          go_wp2_with fail
          refine (HW.out _).mono ?_
          rintro e w2 ⟨rfl, h2⟩
          subst w2
          go_wp2_with fail
          go_ret
          exact Says.no HY.out HB1.out
      · have hB : ((n : Int) == (s.size : Int)) = false := by simp; omega
        have hB' : decide ((n : Int) = (s.size : Int)) = false := decide_eq_false (by omega)
        have HY : Hid (¬ NameP s) := fun h => hall (HAL.out.2 h.2.2.1)
        clear HAL
        go_wp2_with fail
        go_ret
        exact Says.no HY.out HB1.out
    · have h8' : decide ((s.size : Int) ≤ 8) = false := decide_eq_false (by omega)
      have HY : Hid (¬ NameP s) := fun h => h8 h.2.1
      go_enter Tryd.func32, Tryd.ntmps32
      go_wp2_with fail
      go_ret
      exact Says.no HY.out (Below.refl _ _)
set_option maxRecDepth 100000 in
set_option maxHeartbeats 1000000 in
theorem isName_ref (s : ByteArray) (w : World) (hs : s.size ≤ 9223372036854775807) : Calls Tryd.prog 23 #[.string s] w fun e w' => Says (NameP s) w e w' := by
  go_enter Tryd.func23, Tryd.ntmps23
  go_wp2_with fail
  go_loop [3] (fun i => ∃ k : Nat, k ≤ s.size ∧ i = .int .i64 k ∧ ∀ j, j < k → letB (bt s j) = true) (fun i => s.size - (intOf i).toNat)
  case atStart => exact ⟨0, Nat.zero_le _, rfl, fun j hj => absurd hj (by omega)⟩
  case round =>
    obtain ⟨k, hk, rfl, hall⟩ := hrel
    have HA := Lib.hid hall
    clear hall
    by_cases hlt : k < s.size
    · have hlt' : (k : Int) < (s.size : Int) := by omega
      have HL := Lib.hid (fun w => isLetter_refN s k w)
      cases hl : letAt s k
      · rw [hl] at HL
        have HY : Hid (¬ NameP s) := fun h => by have := h.2.2.1 k hlt; unfold letAt at hl; rw [this] at hl; cases hl
        clear hl
        go_wp2_with fail
        refine (HL.out _).mono ?_
        rintro e w2 ⟨rfl, h2⟩
        subst w2
        go_wp2_with fail
        go_ret
        exact Says.no HY.out (Below.refl _ _)
      · rw [hl] at HL
        have HK : Hid (letB (bt s k) = true) := hl
        clear hl
        go_wp2_with fail
        refine (HL.out _).mono ?_
        rintro e w2 ⟨rfl, h2⟩
        subst w2
        go_wp2_with fail
        go_round
        case rel => exact ⟨k + 1, by omega, by go_num, fun j hj => by rcases (show j < k ∨ j = k by omega) with e | rfl; exact HA.out j e; exact HK.out⟩
        case measure => simp [intOf]; omega
    · obtain rfl : k = s.size := by omega
      have hlB : decide ((s.size : Int) < (s.size : Int)) = false := decide_eq_false (by omega)
      by_cases h1 : 1 ≤ s.size
      · have h1' : (1 : Int) ≤ (s.size : Int) := by omega
        by_cases h8 : s.size ≤ 8
        · have h8' : (s.size : Int) ≤ 8 := by omega
          have HNP : Hid (NameP s ↔ wordB s = false) := ⟨fun h => h.2.2.2, fun h => ⟨h1, h8, HA.out, h⟩⟩
          have HW := Lib.hid (fun w => isWord_ref s w)
          cases hw : wordB s
          · rw [hw] at HW
            have HY := Lib.hid (HNP.out.2 hw)
            clear hw HNP
            go_wp2_with fail
            refine (HW.out _).mono ?_
            rintro e w2 ⟨rfl, h2⟩
            have HB2 := Lib.hid h2
            clear h2
            go_wp2_with fail
            go_ret
            exact Says.yes HY.out HB2.out
          · rw [hw] at HW
            have HY : Hid (¬ NameP s) := fun h => by rw [HNP.out.1 h] at hw; cases hw
            clear hw HNP
            go_wp2_with fail
            refine (HW.out _).mono ?_
            rintro e w2 ⟨rfl, h2⟩
            have HB2 := Lib.hid h2
            clear h2
            go_wp2_with fail
            go_ret
            exact Says.no HY.out HB2.out
        · have h8' : decide ((s.size : Int) ≤ 8) = false := decide_eq_false (by omega)
          have HY : Hid (¬ NameP s) := fun h => h8 h.2.1
          go_wp2_with fail
          go_ret
          exact Says.no HY.out (Below.refl _ _)
      · have h1' : decide ((1 : Int) ≤ (s.size : Int)) = false := decide_eq_false (by omega)
        have HY : Hid (¬ NameP s) := fun h => h1 h.1
        go_wp2_with fail
        go_ret
        exact Says.no HY.out (Below.refl _ _)
end Go.Proofs.YtmchanddfodhaaaDoor
