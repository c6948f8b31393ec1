/-
  Promise A3 (reading), second part: what a text is read as; walks of money.wrongAt and money.Read: at every text of at most 2^47 - 4096 bytes they return just that.
-/
import Derived.Test.YtmchanddfodhaaaDoorMRead
import Derived.Deep.QuietTactic
import Derived.BigQuiet
import Derived.Deep.RegionWith
namespace Go.Proofs.YtmchanddfodhaaaDoor.Mny
open Go.RowKit

/-- Where a text goes wrong, its digits ahead of the point from a to p; -1: nowhere. -/
def wrAt (s : ByteArray) (a p : Nat) : Int :=
  if p = a then a else if bt s p ≠ 46 then p else if digB s (p + 1) = false then p + 1 else if digB s (p + 2) = false then p + 2 else if p + 3 < s.size then p + 3 else -1
/-- The number that is read, without its sign. -/
def rdV (s : ByteArray) (a p : Nat) : Int := vTo s (p + 1) (vTo s a 0 (p - a)) 2
def mStart (s : ByteArray) : Nat := if bt s 0 = 45 then 1 else 0
/-- What a text is read as: the fault's errno, its place, the number. -/
def rmE (s : ByteArray) : Int :=
  if wrAt s (mStart s) (wEnd s (mStart s)) ≠ -1 then 1
  else if mStart s = 1 ∧ rdV s (mStart s) (wEnd s (mStart s)) = 0 then 1
  else if 1000000000000 < rdV s (mStart s) (wEnd s (mStart s)) then 3 else 0
def rmA (s : ByteArray) : Int := if wrAt s (mStart s) (wEnd s (mStart s)) ≠ -1 then wrAt s (mStart s) (wEnd s (mStart s)) else 0
def rmN (s : ByteArray) : Int :=
  if rmE s ≠ 0 then 0 else if mStart s = 1 then -rdV s (mStart s) (wEnd s (mStart s)) else rdV s (mStart s) (wEnd s (mStart s))

theorem ret_ib {a b : Int} {x y : Bool} (h : a = b) (k : x = y) : Ending.returned (.tuple #[.int .i64 a, .bool x]) = .returned (.tuple #[.int .i64 b, .bool y]) := by rw [h, k]

set_option maxHeartbeats 1000000 in
/-- A text that goes wrong. -/
theorem wrongAt_yes (s : ByteArray) (a p : Nat) (w : World) (hs : s.size ≤ 140737488351232) (hp : p ≤ s.size) (hw : wrAt s a p ≠ -1) :
    Calls Tryd.prog 69 #[.string s, .int .i64 (a : Int), .int .i64 (p : Int)] w fun e w' => e = .returned (.tuple #[.int .i64 (wrAt s a p), .bool true]) ∧ w' = w := by
  by_cases h1 : p = a
  · have H : Hid (wrAt s a p = a) := by unfold Hid wrAt; rw [if_pos h1]
    have h1' : ((p : Int) == (a : Int)) = true := by simp [h1]
    clear h1 hw
    go_enter Tryd.func69, Tryd.ntmps69
    go_wp2_with (fail)
    go_ret2
    exact ⟨ret_ib (by rw [H.out]; try omega) rfl, rfl⟩
  have h1' : ((p : Int) == (a : Int)) = false := by simp; omega
  by_cases h2 : p < s.size
  · have hb := bt_in h2
    have h2' : (p : Int) < (s.size : Int) := by omega
    by_cases h3 : bt s p = 46
    · have h3' : ((s[p].toNat : Int) != 46) = false := by rw [hb] at h3; simp [h3]
      cases h4 : digB s (p + 1)
      · have H : Hid (wrAt s a p = p + 1) := by unfold Hid wrAt; rw [if_neg h1, if_neg (by simp [h3]), if_pos h4]
        clear hb h3 hw h1
        go_enter Tryd.func69, Tryd.ntmps69
        go_wp2_with (go_at_call 86; refine (isDigitAt_any _ _ _ (by omega)).mono ?_; rintro e w' ⟨rfl, rfl⟩; rw [show ((p : Int) + 1).toNat = p + 1 from by omega, h4])
        go_ret2
        exact ⟨ret_ib (by rw [H.out]; try omega) rfl, rfl⟩
      · cases h5 : digB s (p + 2)
        · have H : Hid (wrAt s a p = p + 2) := by unfold Hid wrAt; rw [if_neg h1, if_neg (by simp [h3]), if_neg (by simp [h4]), if_pos h5]
          clear hb h3 hw h1
          go_enter Tryd.func69, Tryd.ntmps69
          go_wp2_with (go_at_call 86; refine (isDigitAt_any _ _ _ (by omega)).mono ?_; rintro e w' ⟨rfl, rfl⟩; first | rw [show ((p : Int) + 1).toNat = p + 1 from by omega, h4] | rw [show ((p : Int) + 2).toNat = p + 2 from by omega, h5])
          go_ret2
          exact ⟨ret_ib (by rw [H.out]; try omega) rfl, rfl⟩
        · have h6 : p + 3 < s.size := by
            by_cases h6 : p + 3 < s.size
            · exact h6
            · exfalso; apply hw; unfold wrAt; rw [if_neg h1, if_neg (by simp [h3]), if_neg (by simp [h4]), if_neg (by simp [h5]), if_neg h6]
          have H : Hid (wrAt s a p = p + 3) := by unfold Hid wrAt; rw [if_neg h1, if_neg (by simp [h3]), if_neg (by simp [h4]), if_neg (by simp [h5]), if_pos h6]
          clear hb h3 hw h1
          go_enter Tryd.func69, Tryd.ntmps69
          go_wp2_with (go_at_call 86; refine (isDigitAt_any _ _ _ (by omega)).mono ?_; rintro e w' ⟨rfl, rfl⟩; first | rw [show ((p : Int) + 1).toNat = p + 1 from by omega, h4] | rw [show ((p : Int) + 2).toNat = p + 2 from by omega, h5])
          go_ret2
          exact ⟨ret_ib (by rw [H.out]; try omega) rfl, rfl⟩
    · have H : Hid (wrAt s a p = p) := by unfold Hid wrAt; rw [if_neg h1, if_pos h3]
      have h3' : ((s[p].toNat : Int) != 46) = true := by rw [hb] at h3; simp [h3]
      clear hb h3 hw h1
      go_enter Tryd.func69, Tryd.ntmps69
      go_wp2_with (fail)
      go_ret2
      exact ⟨ret_ib (by rw [H.out]; try omega) rfl, rfl⟩
  · have H : Hid (wrAt s a p = p) := by unfold Hid wrAt; rw [if_neg h1, if_pos (by rw [bt_out h2]; decide)]
    have h2' : decide ((s.size : Int) ≤ (p : Int)) = true := decide_eq_true (by omega)
    clear hw h1
    go_enter Tryd.func69, Tryd.ntmps69
    go_wp2_with (fail)
    go_ret2
    exact ⟨ret_ib (by rw [H.out]; try omega) rfl, rfl⟩

set_option maxHeartbeats 1000000 in
/-- A text that goes nowhere wrong. -/
theorem wrAt_no {s : ByteArray} {a p : Nat} (hw : wrAt s a p = -1) : p ≠ a ∧ bt s p = 46 ∧ digB s (p + 1) = true ∧ digB s (p + 2) = true ∧ s.size = p + 3 := by
  unfold wrAt at hw
  by_cases h1 : p = a
  · rw [if_pos h1] at hw; omega
  · rw [if_neg h1] at hw
    by_cases h2 : bt s p = 46
    · rw [if_neg (by simp [h2])] at hw
      cases h4 : digB s (p + 1)
      · rw [if_pos h4] at hw; omega
      · rw [if_neg (by simp [h4])] at hw
        cases h5 : digB s (p + 2)
        · rw [if_pos h5] at hw; omega
        · rw [if_neg (by simp [h5])] at hw
          by_cases h6 : p + 3 < s.size
          · rw [if_pos h6] at hw; omega
          · have := digB_lt h5
            exact ⟨h1, h2, rfl, rfl, by omega⟩
    · rw [if_pos h2] at hw; omega
theorem wrongAt_no (s : ByteArray) (a p : Nat) (w : World) (hs : s.size ≤ 140737488351232) (hw : wrAt s a p = -1) :
    Calls Tryd.prog 69 #[.string s, .int .i64 (a : Int), .int .i64 (p : Int)] w fun e w' => e = .returned (.tuple #[.int .i64 0, .bool false]) ∧ w' = w := by
  obtain ⟨h1, h3, h4, h5, h6⟩ := wrAt_no hw
  have h1' : ((p : Int) == (a : Int)) = false := by simp; omega
  have h2 : p < s.size := by omega
  have hb := bt_in h2
  have h2' : (p : Int) < (s.size : Int) := by omega
  have h3' : ((s[p].toNat : Int) != 46) = false := by rw [hb] at h3; simp [h3]
  have h6' : (s.size : Int) ≤ (p : Int) + 3 := by omega
  clear hb h3 hw h1 h6
  go_enter Tryd.func69, Tryd.ntmps69
  go_wp2_with (go_at_call 86; refine (isDigitAt_any _ _ _ (by omega)).mono ?_; rintro e w' ⟨rfl, rfl⟩; first | rw [show ((p : Int) + 1).toNat = p + 1 from by omega, h4] | rw [show ((p : Int) + 2).toNat = p + 2 from by omega, h5])
  go_ret2
  exact ⟨rfl, rfl⟩

/-! ### Cuts of a text -/
theorem bt_extract (s : ByteArray) (a e j : Nat) (he : e ≤ s.size) (hj : j < e - a) : bt (s.extract a e) j = bt s (a + j) := by
  have h1 : j < (s.extract a e).size := by rw [ByteArray.size_extract]; omega
  have h2 : a + j < s.size := by omega
  rw [bt_in h1, bt_in h2]
  rw [ByteArray.getElem_extract]
theorem vTo_extract (s : ByteArray) (a e : Nat) (n : Int) (he : e ≤ s.size) (k : Nat) (hk : k ≤ e - a) : vTo (s.extract a e) 0 n k = vTo s a n k := by
  induction k with
  | zero => rfl
  | succ k ih => rw [vTo, vTo, ih (by omega), Nat.zero_add, bt_extract s a e k he (by omega)]
theorem digB_extract (s : ByteArray) (a e j : Nat) (he : e ≤ s.size) (hj : j < e - a) : digB (s.extract a e) j = digB s (a + j) := by
  unfold digB; rw [bt_extract s a e j he hj]

/-! ### Read -/
theorem ret_f {a b c d x y : Int} (h1 : a = b) (h2 : c = d) (h3 : x = y) : Ending.returned (.tuple #[.int .i64 a, .agg #[.int .i64 c, .int .i64 x]]) = .returned (.tuple #[.int .i64 b, .agg #[.int .i64 d, .int .i64 y]]) := by rw [h1, h2, h3]

theorem prefix_list : ∀ (l : List UInt8) (h : 0 < l.length), Lib.hasPrefix l [45] = decide (((l[0]'h).toNat : Int) = 45)
  | c :: r, _ => by
    simp only [Lib.hasPrefix, List.isPrefixOf, List.getElem_cons_zero, Bool.and_true]
    rw [Bool.eq_iff_iff]
    simp only [beq_iff_eq, decide_eq_true_eq]
    constructor
    · intro e; subst e; rfl
    · intro e
      apply UInt8.toNat_inj.1
      have : (45 : UInt8).toNat = 45 := rfl
      omega
theorem prefix_minus (s : ByteArray) : Lib.hasPrefix s.data.toList [45] = decide (bt s 0 = 45) := by
  by_cases h : 0 < s.size
  · rw [bt_in h]
    exact prefix_list s.data.toList (by rw [← size_toList]; exact h)
  · rw [bt_out h]
    have hl : s.data.toList = [] := List.eq_nil_of_length_eq_zero (by rw [← size_toList]; omega)
    rw [hl]
    rfl
theorem mStart_le (s : ByteArray) : mStart s ≤ s.size := by
  unfold mStart
  split
  · by_cases h : 0 < s.size
    · omega
    · rename_i h45; rw [bt_out h] at h45; omega
  · omega

set_option maxHeartbeats 1000000 in
theorem read_wrong0 (s : ByteArray) (w : World) (hs : s.size ≤ 140737488351232) (hm : mStart s = 0) (hpre : decide (bt s 0 = 45) = false) (hw : wrAt s 0 (wEnd s 0) ≠ -1) :
    Calls Tryd.prog 47 #[.string s] w fun e w' => e = .returned (.tuple #[.int .i64 (rmN s), .agg #[.int .i64 (rmE s), .int .i64 (rmA s)]]) ∧ Below w.heap.size w w' := by
  have hst := mStart_le s
  rw [hm] at hst
  have HE : Hid (rmE s = 1) := by unfold Hid rmE; rw [hm, if_pos hw]
  have HA : Hid (rmA s = wrAt s 0 (wEnd s 0)) := by unfold Hid rmA; rw [hm, if_pos hw]
  have HN : Hid (rmN s = 0) := by unfold Hid rmN; rw [if_pos (by rw [HE.out]; decide)]
  have HP : Hid (∀ w, Calls Tryd.prog 39 #[.string s, .string ⟨#[45]⟩] w fun e w' => e = .returned (.bool false) ∧ w' = w) := fun w => by
    have := sh_strings_HasPrefix s ⟨#[45]⟩ w
    rw [show (⟨#[45]⟩ : ByteArray).data.toList = [45] from rfl, prefix_minus, hpre] at this
    exact this
  have H2 : Hid (∀ w, Calls Tryd.prog 68 #[.string s, .int .i64 0] w fun e w' => e = .returned (.int .i64 (wEnd s 0 : Nat)) ∧ w' = w) := fun w => wholeEnd_any s 0 w (by unfold maxLen; omega) hst
  have H3 : Hid (∀ w, Calls Tryd.prog 69 #[.string s, .int .i64 0, .int .i64 (wEnd s 0 : Nat)] w fun e w' => e = .returned (.tuple #[.int .i64 (wrAt s 0 (wEnd s 0)), .bool true]) ∧ w' = w) := fun w => wrongAt_yes s 0 (wEnd s 0) w hs (wEnd_le s _ hst) hw
  clear hw hm hpre hst
  generalize wEnd s 0 = p at *
  generalize wrAt s 0 p = at' at *
  go_enter Tryd.func47, Tryd.ntmps47
  go_wp2_with fail
  refine (HP.out _).mono ?_
  rintro e w1 ⟨rfl, rfl⟩
  go_wp2_with fail
  refine (H2.out _).mono ?_
  rintro e w2 ⟨rfl, rfl⟩
  go_wp2_with fail
  refine (H3.out _).mono ?_
  rintro e w3 ⟨rfl, rfl⟩
  go_wp2_with fail
  exact bodyPost_ret (v := .tuple #[.int .i64 0, .agg #[.int .i64 1, .int .i64 at']]) (by simp [results, Tryd.results47, go_sem]) rfl ⟨ret_f HN.out.symm HE.out.symm HA.out.symm, (Below.refl _ _).alloc (Nat.le_refl _) _⟩
set_option maxHeartbeats 1000000 in
theorem read_wrong1 (s : ByteArray) (w : World) (hs : s.size ≤ 140737488351232) (hm : mStart s = 1) (hpre : decide (bt s 0 = 45) = true) (hw : wrAt s 1 (wEnd s 1) ≠ -1) :
    Calls Tryd.prog 47 #[.string s] w fun e w' => e = .returned (.tuple #[.int .i64 (rmN s), .agg #[.int .i64 (rmE s), .int .i64 (rmA s)]]) ∧ Below w.heap.size w w' := by
  have hst := mStart_le s
  rw [hm] at hst
  have HE : Hid (rmE s = 1) := by unfold Hid rmE; rw [hm, if_pos hw]
  have HA : Hid (rmA s = wrAt s 1 (wEnd s 1)) := by unfold Hid rmA; rw [hm, if_pos hw]
  have HN : Hid (rmN s = 0) := by unfold Hid rmN; rw [if_pos (by rw [HE.out]; decide)]
  have HP : Hid (∀ w, Calls Tryd.prog 39 #[.string s, .string ⟨#[45]⟩] w fun e w' => e = .returned (.bool true) ∧ w' = w) := fun w => by
    have := sh_strings_HasPrefix s ⟨#[45]⟩ w
    rw [show (⟨#[45]⟩ : ByteArray).data.toList = [45] from rfl, prefix_minus, hpre] at this
    exact this
  have H2 : Hid (∀ w, Calls Tryd.prog 68 #[.string s, .int .i64 1] w fun e w' => e = .returned (.int .i64 (wEnd s 1 : Nat)) ∧ w' = w) := fun w => wholeEnd_any s 1 w (by unfold maxLen; omega) hst
  have H3 : Hid (∀ w, Calls Tryd.prog 69 #[.string s, .int .i64 1, .int .i64 (wEnd s 1 : Nat)] w fun e w' => e = .returned (.tuple #[.int .i64 (wrAt s 1 (wEnd s 1)), .bool true]) ∧ w' = w) := fun w => wrongAt_yes s 1 (wEnd s 1) w hs (wEnd_le s _ hst) hw
  clear hw hm hpre hst
  generalize wEnd s 1 = p at *
  generalize wrAt s 1 p = at' at *
  go_enter Tryd.func47, Tryd.ntmps47
  go_wp2_with fail
  refine (HP.out _).mono ?_
  rintro e w1 ⟨rfl, rfl⟩
  go_wp2_with fail
  refine (H2.out _).mono ?_
  rintro e w2 ⟨rfl, rfl⟩
  go_wp2_with fail
  refine (H3.out _).mono ?_
  rintro e w3 ⟨rfl, rfl⟩
  go_wp2_with fail
  exact bodyPost_ret (v := .tuple #[.int .i64 0, .agg #[.int .i64 1, .int .i64 at']]) (by simp [results, Tryd.results47, go_sem]) rfl ⟨ret_f HN.out.symm HE.out.symm HA.out.symm, (Below.refl _ _).alloc (Nat.le_refl _) _⟩

/-- The number that is read, and its bounds. -/
theorem read_facts {s : ByteArray} {a : Nat} (hw : wrAt s a (wEnd s a) = -1) :
    a < wEnd s a ∧ s.size = wEnd s a + 3 ∧ (0 ≤ vTo s a 0 (wEnd s a - a) ∧ vTo s a 0 (wEnd s a - a) ≤ 10000000000009) ∧ (0 ≤ rdV s a (wEnd s a) ∧ rdV s a (wEnd s a) ≤ 10000000000009) ∧
    (∀ j, j < wEnd s a - a → digB s (a + j) = true) ∧ (∀ j, j < 2 → digB s (wEnd s a + 1 + j) = true) := by
  obtain ⟨h1, _, h4, h5, h6⟩ := wrAt_no hw
  have hge := wEnd_ge s a
  have hd : ∀ j, j < wEnd s a - a → digB s (a + j) = true := fun j hj => wEnd_dig s a (a + j) (by omega) (by omega)
  have hd2 : ∀ j, j < 2 → digB s (wEnd s a + 1 + j) = true := fun j hj => by
    match j, hj with
    | 0, _ => exact h4
    | 1, _ => exact h5
  have hb := vTo_bd s a 0 (by omega) (by omega) (wEnd s a - a) hd
  exact ⟨by omega, h6, hb, vTo_bd s (wEnd s a + 1) _ hb.1 hb.2 2 hd2, hd, hd2⟩

end Go.Proofs.YtmchanddfodhaaaDoor.Mny
