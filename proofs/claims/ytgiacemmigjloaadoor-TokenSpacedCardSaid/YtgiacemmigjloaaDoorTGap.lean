/-
  Promise E2: what stands ahead of a token: the walk of gap. No condition but the text's length.
-/
import Derived.Test.YtgiacemmigjloaaDoorTSpan
import Derived.Test.YtgiacemmigjloaaDoorShelf
namespace Go.Proofs.YtgiacemmigjloaaDoor
open Go.RowKit

theorem bt_extract (s : ByteArray) (a e j : Nat) (he : e ≤ s.size) (hj : j < e - a) : bt (s.extract a e) j = bt s (a + j) := by
  have h1 : j < (s.extract a e).size := by rw [ByteArray.size_extract]; omega
  have h2 : a + j < s.size := by omega
  rw [bt_in h1, bt_in h2]
  rw [ByteArray.getElem_extract]
theorem bt_suffix (s : ByteArray) (a j : Nat) : bt (s.extract a s.size) j = bt s (a + j) := by
  by_cases h : j < s.size - a
  · exact bt_extract s a s.size j (Nat.le_refl _) h
  · rw [bt_out (by rw [ByteArray.size_extract]; omega), bt_out (by omega)]
theorem size_toL (s : ByteArray) : s.size = s.data.toList.length := rfl
theorem prefix_one (c : UInt8) : ∀ (l : List UInt8) (h : 0 < l.length), Lib.hasPrefix l [c] = decide (((l[0]'h).toNat : Int) = (c.toNat : Int))
  | d :: r, _ => by
    simp only [Lib.hasPrefix, List.isPrefixOf, List.getElem_cons_zero, Bool.and_true]
    rw [Bool.eq_iff_iff]
    simp only [beq_iff_eq, decide_eq_true_eq]
    constructor
    · intro e; subst e; rfl
    · intro e
      apply UInt8.toNat_inj.1
      omega
theorem prefix_byte (c : UInt8) (s : ByteArray) : Lib.hasPrefix s.data.toList [c] = decide (bt s 0 = (c.toNat : Int)) := by
  by_cases h : 0 < s.size
  · rw [bt_in h]
    exact prefix_one c s.data.toList (by rw [← size_toL]; exact h)
  · rw [bt_out h]
    have hl : s.data.toList = [] := List.eq_nil_of_length_eq_zero (by rw [← size_toL]; omega)
    rw [hl, decide_eq_false (by omega)]
    rfl
/-- From a place on, so many bytes go by until one does not fit. -/
def SpanAt (P : Int → Bool) (s : ByteArray) (a k : Nat) : Prop := a + k ≤ s.size ∧ (∀ j, j < k → P (bt s (a + j)) = true) ∧ (a + k < s.size → P (bt s (a + k)) = false)
theorem SpanIs.at {P : Int → Bool} {s : ByteArray} {a k : Nat} (ha : a ≤ s.size) (h : SpanIs P (s.extract a s.size) k) : SpanAt P s a k := by
  obtain ⟨h1, h2, h3⟩ := h
  rw [ByteArray.size_extract] at h1 h3
  refine ⟨by omega, fun j hj => ?_, fun hk => ?_⟩
  · rw [← bt_suffix]; exact h2 j hj
  · rw [← bt_suffix]; exact h3 (by omega)
/-- From a place on the gap ends there: blanks, and remarks to the end of their line. -/
inductive GapAt (s : ByteArray) : Nat → Nat → Prop
  | stop (a k : Nat) (h : SpanAt blkB s a k) (hn : bt s (a + k) ≠ 35) : GapAt s a (a + k)
  | more (a k m n : Nat) (h : SpanAt blkB s a k) (hn : bt s (a + k) = 35) (hm : SpanAt nlfB s (a + k) m) (hr : GapAt s (a + k + m) n) : GapAt s a n

theorem hash_at (s : ByteArray) (a : Nat) (b : Bool) (h : decide (bt s a = 35) = b) (w : World) :
    Calls Tryd.prog 26 #[.string (s.extract a s.size), .string ⟨#[35]⟩] w fun e w' => e = .returned (.bool b) ∧ w' = w := by
  have := sh_strings_HasPrefix (s.extract a s.size) ⟨#[35]⟩ w
  rw [show (⟨#[35]⟩ : ByteArray).data.toList = [35] from rfl, prefix_byte, bt_suffix, Nat.add_zero, show (((35 : UInt8).toNat : Nat) : Int) = 35 from rfl, h] at this
  exact this

set_option maxRecDepth 100000 in
set_option maxHeartbeats 2000000 in
theorem gap_any (s : ByteArray) (w : World) (hs : s.size ≤ 140737488351232) :
    Calls Tryd.prog 21 #[.string s] w fun e w' => ∃ n : Nat, e = .returned (.int .i64 (n : Int)) ∧ GapAt s 0 n ∧ n ≤ s.size ∧ Below w.heap.size w w' := by
  go_enter Tryd.func21, Tryd.ntmps21
  go_wp2_with fail
  go_loopw [3] (fun av wr => ∃ a : Nat, av = .int .i64 (a : Int) ∧ a ≤ s.size ∧ (∀ n, GapAt s a n → GapAt s 0 n) ∧ Below w.heap.size w wr) (fun av _ => s.size - (intOf av).toNat)
  case atStart => exact ⟨0, rfl, Nat.zero_le _, fun n h => h, Below.refl _ _⟩
  case round =>
    obtain ⟨a, rfl, ha, hg, hb⟩ := hrel
    have HG := Lib.hid hg
    have HB := Lib.hid hb
    clear hg hb
    have ha' : (a : Int) ≤ (s.size : Int) := by omega
    go_wp2_with fail
    refine (span_blanks _ _).mono ?_
    rintro e w1 ⟨k, rfl, h1, h2⟩
    have h1 := h1.at ha
    have hk := h1.1
    have H1 := Lib.hid h1
    have HB1 := Lib.hid (HB.out.trans (h2.mono HB.out.size))
    clear h1 h2
    have hk' : (a : Int) + (k : Int) ≤ (s.size : Int) := by omega
    have HH := Lib.hid (fun b (h : decide (bt s (a + k) = 35) = b) w => hash_at s (a + k) b h w)
    by_cases h35 : bt s (a + k) = 35
    · have HH := Lib.hid (HH.out true (decide_eq_true h35))
      have H35 := Lib.hid h35
      clear h35
      go_wp2_with fail
      refine (HH.out _).mono ?_
      rintro e w2 ⟨rfl, h2⟩
      subst w2
      go_wp2_with fail
      refine (span_line _ _).mono ?_
      rintro e w2 ⟨m, rfl, h1, h2⟩
      have h1 := h1.at hk
      have hm := h1.1
      have hm1 : 1 ≤ m := by
        rcases Nat.eq_zero_or_pos m with rfl | h
        · have hlt : a + k < s.size := by
            by_cases h : a + k < s.size
            · exact h
            · have := H35.out; rw [bt_out h] at this; omega
          have := h1.2.2 hlt
          rw [Nat.add_zero, H35.out] at this
          cases this
        · exact h
      have HM := Lib.hid h1
      have HB2 := Lib.hid (HB1.out.trans (h2.mono HB1.out.size))
      clear h1 h2
      have hm' : (a : Int) + (k : Int) + (m : Int) ≤ (s.size : Int) := by omega
      go_wp2_with fail
      go_roundw
      case rel => exact ⟨a + k + m, by go_num, hm, fun n h => HG.out n (.more a k m n H1.out H35.out HM.out h), HB2.out⟩
      case measure => simp [intOf]; omega
    · have HH := Lib.hid (HH.out false (decide_eq_false h35))
      have H35 := Lib.hid h35
      clear h35
      go_wp2_with fail
      refine (HH.out _).mono ?_
      rintro e w2 ⟨rfl, h2⟩
      subst w2
      go_wp2_with fail
      go_ret
      exact ⟨a + k, rfl, HG.out _ (.stop a k H1.out H35.out), hk, HB1.out⟩
end Go.Proofs.YtgiacemmigjloaaDoor
