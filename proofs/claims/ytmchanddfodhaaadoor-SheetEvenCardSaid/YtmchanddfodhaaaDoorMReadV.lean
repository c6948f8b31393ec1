/-
  Promise A3 (reading), third part: money.Read at a text that goes nowhere wrong, and at every text of at most 2^47 - 4096 bytes.
-/
import Derived.Test.YtmchanddfodhaaaDoorMReadW
namespace Go.Proofs.YtmchanddfodhaaaDoor.Mny
open Go.RowKit

theorem below_drN {B : Nat} {a w : World} (h : Below B a w) (k : Nat) : Below B a (w.drewN k) := h.trans ⟨rfl, rfl, rfl, Nat.le_refl _, fun _ _ => rfl⟩


set_option maxHeartbeats 2000000 in
theorem read_ok0 (s : ByteArray) (w : World) (hs : s.size ≤ 140737488351232) (hm : mStart s = 0) (hpre : decide (bt s 0 = 45) = false) (hw : wrAt s 0 (wEnd s 0) = -1) (h0 : 0 < rdV s 0 (wEnd s 0)) (h1 : rdV s 0 (wEnd s 0) ≤ 1000000000000) :
    Calls Tryd.prog 47 #[.string s] w fun e w' => e = .returned (.tuple #[.int .i64 (rdV s 0 (wEnd s 0)), .agg #[.int .i64 0, .int .i64 0]]) ∧ Below w.heap.size w w' := by
  have hst := mStart_le s
  rw [hm] at hst
  obtain ⟨f1, f2, f3, f4, f5, f6⟩ := read_facts hw
  have HP : Hid (∀ w, Calls Tryd.prog 39 #[.string s, .string ⟨#[45]⟩] w fun e w' => e = .returned (.bool false) ∧ w' = w) := fun w => by
    have := sh_strings_HasPrefix s ⟨#[45]⟩ w
    rw [show (⟨#[45]⟩ : ByteArray).data.toList = [45] from rfl, prefix_minus, hpre] at this
    exact this
  have H2 : Hid (∀ w, Calls Tryd.prog 68 #[.string s, .int .i64 0] w fun e w' => e = .returned (.int .i64 (wEnd s 0 : Nat)) ∧ w' = w) := fun w => wholeEnd_any s 0 w (by unfold maxLen; omega) hst
  have H3 : Hid (∀ w, Calls Tryd.prog 69 #[.string s, .int .i64 0, .int .i64 (wEnd s 0 : Nat)] w fun e w' => e = .returned (.tuple #[.int .i64 0, .bool false]) ∧ w' = w) := fun w => wrongAt_no s 0 (wEnd s 0) w hs hw
  have H4 : Hid (∀ w, Calls Tryd.prog 70 #[.int .i64 0, .string (s.extract 0 (wEnd s 0))] w fun e w' => e = .returned (.int .i64 (vTo s 0 0 (wEnd s 0 - 0))) ∧ w' = w) := fun w => by
    have hsz : (s.extract 0 (wEnd s 0)).size = wEnd s 0 - 0 := by rw [ByteArray.size_extract]; omega
    have := withDigits_any 0 (s.extract 0 (wEnd s 0)) w (by omega) (by omega) (by rw [hsz]; unfold maxLen; omega) (fun j hj => by rw [digB_extract s _ _ j (by omega) (by omega)]; exact f5 j (by omega))
    rw [hsz, vTo_extract s _ _ 0 (by omega) _ (Nat.le_refl _)] at this
    exact this
  have H5 : Hid (∀ w, Calls Tryd.prog 70 #[.int .i64 (vTo s 0 0 (wEnd s 0 - 0)), .string (s.extract (wEnd s 0 + 1) s.size)] w fun e w' => e = .returned (.int .i64 (rdV s 0 (wEnd s 0))) ∧ w' = w) := fun w => by
    have hsz : (s.extract (wEnd s 0 + 1) s.size).size = 2 := by rw [ByteArray.size_extract]; omega
    have := withDigits_any (vTo s 0 0 (wEnd s 0 - 0)) (s.extract (wEnd s 0 + 1) s.size) w f3.1 f3.2 (by rw [hsz]; unfold maxLen; omega) (fun j hj => by rw [digB_extract s _ _ j (by omega) (by omega)]; exact f6 j (by omega))
    rw [hsz, vTo_extract s _ _ _ (by omega) _ (by omega)] at this
    exact this
  clear hw hm hpre hst f5 f6 f3
  generalize wEnd s 0 = p at *
  generalize vTo s 0 0 (p - 0) = v1 at *
  generalize rdV s 0 p = V at *
  obtain ⟨f40, f41⟩ := f4
  have g1 : (0 : Int) < (p : Int) := by omega
  have g2 : (p : Int) + 1 < (s.size : Int) := by omega
  have g3 : (p : Int) < (s.size : Int) := by omega
  have g4 : p < s.size := by omega
  have g5 : p + 1 < s.size := by omega
  have HF := Lib.hid f2
  clear f2
  go_enter Tryd.func47, Tryd.ntmps47
  go_wp2_with fail
  refine (HP.out _).mono ?_
  rintro e w1 ⟨rfl, rfl⟩
  go_wp2_with fail
  refine (H2.out _).mono ?_
  rintro e w2 ⟨rfl, rfl⟩
  go_wp2_with fail
  refine (H3.out _).mono ?_
  rintro e w3 ⟨rfl, rfl⟩
  go_wp2_with fail
  go_quiet ((first | (go_at_call_of 70 (Value.string (s.extract 0 p)); exact Calls.quiet_of_same (H4.out _)) | (go_at_call 70; exact Calls.quiet_of_same (H5.out _))))
  go_wp2
  all_goals refine bodyPost_ret (v := .tuple #[.int .i64 _, .agg #[.int .i64 0, .int .i64 0]]) (by simp [results, Tryd.results47, go_sem] <;> rfl) rfl ⟨rfl, ?_⟩
  all_goals exact ((below_drN ((Below.refl _ _).alloc (Nat.le_refl _) _) _).setCell (p := ⟨w.heap.size, 0, none⟩) (Nat.le_refl _) _).setCell (p := ⟨w.heap.size, 1, none⟩) (Nat.le_refl _) _
set_option maxHeartbeats 2000000 in
theorem read_zero0 (s : ByteArray) (w : World) (hs : s.size ≤ 140737488351232) (hm : mStart s = 0) (hpre : decide (bt s 0 = 45) = false) (hw : wrAt s 0 (wEnd s 0) = -1) (h1 : rdV s 0 (wEnd s 0) ≤ 0) :
    Calls Tryd.prog 47 #[.string s] w fun e w' => e = .returned (.tuple #[.int .i64 (0), .agg #[.int .i64 0, .int .i64 0]]) ∧ Below w.heap.size w w' := by
  have hst := mStart_le s
  rw [hm] at hst
  obtain ⟨f1, f2, f3, f4, f5, f6⟩ := read_facts hw
  have HP : Hid (∀ w, Calls Tryd.prog 39 #[.string s, .string ⟨#[45]⟩] w fun e w' => e = .returned (.bool false) ∧ w' = w) := fun w => by
    have := sh_strings_HasPrefix s ⟨#[45]⟩ w
    rw [show (⟨#[45]⟩ : ByteArray).data.toList = [45] from rfl, prefix_minus, hpre] at this
    exact this
  have H2 : Hid (∀ w, Calls Tryd.prog 68 #[.string s, .int .i64 0] w fun e w' => e = .returned (.int .i64 (wEnd s 0 : Nat)) ∧ w' = w) := fun w => wholeEnd_any s 0 w (by unfold maxLen; omega) hst
  have H3 : Hid (∀ w, Calls Tryd.prog 69 #[.string s, .int .i64 0, .int .i64 (wEnd s 0 : Nat)] w fun e w' => e = .returned (.tuple #[.int .i64 0, .bool false]) ∧ w' = w) := fun w => wrongAt_no s 0 (wEnd s 0) w hs hw
  have H4 : Hid (∀ w, Calls Tryd.prog 70 #[.int .i64 0, .string (s.extract 0 (wEnd s 0))] w fun e w' => e = .returned (.int .i64 (vTo s 0 0 (wEnd s 0 - 0))) ∧ w' = w) := fun w => by
    have hsz : (s.extract 0 (wEnd s 0)).size = wEnd s 0 - 0 := by rw [ByteArray.size_extract]; omega
    have := withDigits_any 0 (s.extract 0 (wEnd s 0)) w (by omega) (by omega) (by rw [hsz]; unfold maxLen; omega) (fun j hj => by rw [digB_extract s _ _ j (by omega) (by omega)]; exact f5 j (by omega))
    rw [hsz, vTo_extract s _ _ 0 (by omega) _ (Nat.le_refl _)] at this
    exact this
  have H5 : Hid (∀ w, Calls Tryd.prog 70 #[.int .i64 (vTo s 0 0 (wEnd s 0 - 0)), .string (s.extract (wEnd s 0 + 1) s.size)] w fun e w' => e = .returned (.int .i64 (rdV s 0 (wEnd s 0))) ∧ w' = w) := fun w => by
    have hsz : (s.extract (wEnd s 0 + 1) s.size).size = 2 := by rw [ByteArray.size_extract]; omega
    have := withDigits_any (vTo s 0 0 (wEnd s 0 - 0)) (s.extract (wEnd s 0 + 1) s.size) w f3.1 f3.2 (by rw [hsz]; unfold maxLen; omega) (fun j hj => by rw [digB_extract s _ _ j (by omega) (by omega)]; exact f6 j (by omega))
    rw [hsz, vTo_extract s _ _ _ (by omega) _ (by omega)] at this
    exact this
  clear hw hm hpre hst f5 f6 f3
  generalize wEnd s 0 = p at *
  generalize vTo s 0 0 (p - 0) = v1 at *
  generalize rdV s 0 p = V at *
  obtain ⟨f40, f41⟩ := f4
  have g1 : (0 : Int) < (p : Int) := by omega
  have g2 : (p : Int) + 1 < (s.size : Int) := by omega
  have g3 : (p : Int) < (s.size : Int) := by omega
  have g4 : p < s.size := by omega
  have g5 : p + 1 < s.size := by omega
  have HF := Lib.hid f2
  clear f2
  go_enter Tryd.func47, Tryd.ntmps47
  go_wp2_with fail
  refine (HP.out _).mono ?_
  rintro e w1 ⟨rfl, rfl⟩
  go_wp2_with fail
  refine (H2.out _).mono ?_
  rintro e w2 ⟨rfl, rfl⟩
  go_wp2_with fail
  refine (H3.out _).mono ?_
  rintro e w3 ⟨rfl, rfl⟩
  go_wp2_with fail
  go_quiet ((first | (go_at_call_of 70 (Value.string (s.extract 0 p)); exact Calls.quiet_of_same (H4.out _)) | (go_at_call 70; exact Calls.quiet_of_same (H5.out _))))
  go_wp2
  all_goals refine bodyPost_ret (v := .tuple #[.int .i64 _, .agg #[.int .i64 0, .int .i64 0]]) (by simp [results, Tryd.results47, go_sem] <;> rfl) rfl ⟨rfl, ?_⟩
  all_goals exact ((below_drN ((Below.refl _ _).alloc (Nat.le_refl _) _) _).setCell (p := ⟨w.heap.size, 0, none⟩) (Nat.le_refl _) _).setCell (p := ⟨w.heap.size, 1, none⟩) (Nat.le_refl _) _
set_option maxHeartbeats 2000000 in
theorem read_range0 (s : ByteArray) (w : World) (hs : s.size ≤ 140737488351232) (hm : mStart s = 0) (hpre : decide (bt s 0 = 45) = false) (hw : wrAt s 0 (wEnd s 0) = -1) (h1 : 1000000000000 < rdV s 0 (wEnd s 0)) :
    Calls Tryd.prog 47 #[.string s] w fun e w' => e = .returned (.tuple #[.int .i64 (0), .agg #[.int .i64 3, .int .i64 0]]) ∧ Below w.heap.size w w' := by
  have hst := mStart_le s
  rw [hm] at hst
  obtain ⟨f1, f2, f3, f4, f5, f6⟩ := read_facts hw
  have HP : Hid (∀ w, Calls Tryd.prog 39 #[.string s, .string ⟨#[45]⟩] w fun e w' => e = .returned (.bool false) ∧ w' = w) := fun w => by
    have := sh_strings_HasPrefix s ⟨#[45]⟩ w
    rw [show (⟨#[45]⟩ : ByteArray).data.toList = [45] from rfl, prefix_minus, hpre] at this
    exact this
  have H2 : Hid (∀ w, Calls Tryd.prog 68 #[.string s, .int .i64 0] w fun e w' => e = .returned (.int .i64 (wEnd s 0 : Nat)) ∧ w' = w) := fun w => wholeEnd_any s 0 w (by unfold maxLen; omega) hst
  have H3 : Hid (∀ w, Calls Tryd.prog 69 #[.string s, .int .i64 0, .int .i64 (wEnd s 0 : Nat)] w fun e w' => e = .returned (.tuple #[.int .i64 0, .bool false]) ∧ w' = w) := fun w => wrongAt_no s 0 (wEnd s 0) w hs hw
  have H4 : Hid (∀ w, Calls Tryd.prog 70 #[.int .i64 0, .string (s.extract 0 (wEnd s 0))] w fun e w' => e = .returned (.int .i64 (vTo s 0 0 (wEnd s 0 - 0))) ∧ w' = w) := fun w => by
    have hsz : (s.extract 0 (wEnd s 0)).size = wEnd s 0 - 0 := by rw [ByteArray.size_extract]; omega
    have := withDigits_any 0 (s.extract 0 (wEnd s 0)) w (by omega) (by omega) (by rw [hsz]; unfold maxLen; omega) (fun j hj => by rw [digB_extract s _ _ j (by omega) (by omega)]; exact f5 j (by omega))
    rw [hsz, vTo_extract s _ _ 0 (by omega) _ (Nat.le_refl _)] at this
    exact this
  have H5 : Hid (∀ w, Calls Tryd.prog 70 #[.int .i64 (vTo s 0 0 (wEnd s 0 - 0)), .string (s.extract (wEnd s 0 + 1) s.size)] w fun e w' => e = .returned (.int .i64 (rdV s 0 (wEnd s 0))) ∧ w' = w) := fun w => by
    have hsz : (s.extract (wEnd s 0 + 1) s.size).size = 2 := by rw [ByteArray.size_extract]; omega
    have := withDigits_any (vTo s 0 0 (wEnd s 0 - 0)) (s.extract (wEnd s 0 + 1) s.size) w f3.1 f3.2 (by rw [hsz]; unfold maxLen; omega) (fun j hj => by rw [digB_extract s _ _ j (by omega) (by omega)]; exact f6 j (by omega))
    rw [hsz, vTo_extract s _ _ _ (by omega) _ (by omega)] at this
    exact this
  clear hw hm hpre hst f5 f6 f3
  generalize wEnd s 0 = p at *
  generalize vTo s 0 0 (p - 0) = v1 at *
  generalize rdV s 0 p = V at *
  obtain ⟨f40, f41⟩ := f4
  have g1 : (0 : Int) < (p : Int) := by omega
  have g2 : (p : Int) + 1 < (s.size : Int) := by omega
  have g3 : (p : Int) < (s.size : Int) := by omega
  have g4 : p < s.size := by omega
  have g5 : p + 1 < s.size := by omega
  have HF := Lib.hid f2
  clear f2
  go_enter Tryd.func47, Tryd.ntmps47
  go_wp2_with fail
  refine (HP.out _).mono ?_
  rintro e w1 ⟨rfl, rfl⟩
  go_wp2_with fail
  refine (H2.out _).mono ?_
  rintro e w2 ⟨rfl, rfl⟩
  go_wp2_with fail
  refine (H3.out _).mono ?_
  rintro e w3 ⟨rfl, rfl⟩
  go_wp2_with fail
  go_quiet ((first | (go_at_call_of 70 (Value.string (s.extract 0 p)); exact Calls.quiet_of_same (H4.out _)) | (go_at_call 70; exact Calls.quiet_of_same (H5.out _))))
  go_wp2
  all_goals refine bodyPost_ret (v := .tuple #[.int .i64 _, .agg #[.int .i64 3, .int .i64 0]]) (by simp [results, Tryd.results47, go_sem] <;> rfl) rfl ⟨rfl, ?_⟩
  all_goals exact ((below_drN ((Below.refl _ _).alloc (Nat.le_refl _) _) _).setCell (p := ⟨w.heap.size, 0, none⟩) (Nat.le_refl _) _).setCell (p := ⟨w.heap.size, 1, none⟩) (Nat.le_refl _) _
set_option maxHeartbeats 2000000 in
theorem read_ok1 (s : ByteArray) (w : World) (hs : s.size ≤ 140737488351232) (hm : mStart s = 1) (hpre : decide (bt s 0 = 45) = true) (hw : wrAt s 1 (wEnd s 1) = -1) (h0 : 0 < rdV s 1 (wEnd s 1)) (h1 : rdV s 1 (wEnd s 1) ≤ 1000000000000) :
    Calls Tryd.prog 47 #[.string s] w fun e w' => e = .returned (.tuple #[.int .i64 (-rdV s 1 (wEnd s 1)), .agg #[.int .i64 0, .int .i64 0]]) ∧ Below w.heap.size w w' := by
  have hst := mStart_le s
  rw [hm] at hst
  obtain ⟨f1, f2, f3, f4, f5, f6⟩ := read_facts hw
  have HP : Hid (∀ w, Calls Tryd.prog 39 #[.string s, .string ⟨#[45]⟩] w fun e w' => e = .returned (.bool true) ∧ w' = w) := fun w => by
    have := sh_strings_HasPrefix s ⟨#[45]⟩ w
    rw [show (⟨#[45]⟩ : ByteArray).data.toList = [45] from rfl, prefix_minus, hpre] at this
    exact this
  have H2 : Hid (∀ w, Calls Tryd.prog 68 #[.string s, .int .i64 1] w fun e w' => e = .returned (.int .i64 (wEnd s 1 : Nat)) ∧ w' = w) := fun w => wholeEnd_any s 1 w (by unfold maxLen; omega) hst
  have H3 : Hid (∀ w, Calls Tryd.prog 69 #[.string s, .int .i64 1, .int .i64 (wEnd s 1 : Nat)] w fun e w' => e = .returned (.tuple #[.int .i64 0, .bool false]) ∧ w' = w) := fun w => wrongAt_no s 1 (wEnd s 1) w hs hw
  have H4 : Hid (∀ w, Calls Tryd.prog 70 #[.int .i64 0, .string (s.extract 1 (wEnd s 1))] w fun e w' => e = .returned (.int .i64 (vTo s 1 0 (wEnd s 1 - 1))) ∧ w' = w) := fun w => by
    have hsz : (s.extract 1 (wEnd s 1)).size = wEnd s 1 - 1 := by rw [ByteArray.size_extract]; omega
    have := withDigits_any 0 (s.extract 1 (wEnd s 1)) w (by omega) (by omega) (by rw [hsz]; unfold maxLen; omega) (fun j hj => by rw [digB_extract s _ _ j (by omega) (by omega)]; exact f5 j (by omega))
    rw [hsz, vTo_extract s _ _ 0 (by omega) _ (Nat.le_refl _)] at this
    exact this
  have H5 : Hid (∀ w, Calls Tryd.prog 70 #[.int .i64 (vTo s 1 0 (wEnd s 1 - 1)), .string (s.extract (wEnd s 1 + 1) s.size)] w fun e w' => e = .returned (.int .i64 (rdV s 1 (wEnd s 1))) ∧ w' = w) := fun w => by
    have hsz : (s.extract (wEnd s 1 + 1) s.size).size = 2 := by rw [ByteArray.size_extract]; omega
    have := withDigits_any (vTo s 1 0 (wEnd s 1 - 1)) (s.extract (wEnd s 1 + 1) s.size) w f3.1 f3.2 (by rw [hsz]; unfold maxLen; omega) (fun j hj => by rw [digB_extract s _ _ j (by omega) (by omega)]; exact f6 j (by omega))
    rw [hsz, vTo_extract s _ _ _ (by omega) _ (by omega)] at this
    exact this
  clear hw hm hpre hst f5 f6 f3
  generalize wEnd s 1 = p at *
  generalize vTo s 1 0 (p - 1) = v1 at *
  generalize rdV s 1 p = V at *
  obtain ⟨f40, f41⟩ := f4
  have g1 : (1 : Int) < (p : Int) := by omega
  have g2 : (p : Int) + 1 < (s.size : Int) := by omega
  have g3 : (p : Int) < (s.size : Int) := by omega
  have g4 : p < s.size := by omega
  have g5 : p + 1 < s.size := by omega
  have HF := Lib.hid f2
  clear f2
  go_enter Tryd.func47, Tryd.ntmps47
  go_wp2_with fail
  refine (HP.out _).mono ?_
  rintro e w1 ⟨rfl, rfl⟩
  go_wp2_with fail
  refine (H2.out _).mono ?_
  rintro e w2 ⟨rfl, rfl⟩
  go_wp2_with fail
  refine (H3.out _).mono ?_
  rintro e w3 ⟨rfl, rfl⟩
  go_wp2_with fail
  go_quiet ((first | (go_at_call_of 70 (Value.string (s.extract 1 p)); exact Calls.quiet_of_same (H4.out _)) | (go_at_call 70; exact Calls.quiet_of_same (H5.out _))))
  go_wp2
  all_goals refine bodyPost_ret (v := .tuple #[.int .i64 _, .agg #[.int .i64 0, .int .i64 0]]) (by simp [results, Tryd.results47, go_sem] <;> rfl) rfl ⟨rfl, ?_⟩
  all_goals exact ((below_drN ((Below.refl _ _).alloc (Nat.le_refl _) _) _).setCell (p := ⟨w.heap.size, 0, none⟩) (Nat.le_refl _) _).setCell (p := ⟨w.heap.size, 1, none⟩) (Nat.le_refl _) _
set_option maxHeartbeats 2000000 in
theorem read_range1 (s : ByteArray) (w : World) (hs : s.size ≤ 140737488351232) (hm : mStart s = 1) (hpre : decide (bt s 0 = 45) = true) (hw : wrAt s 1 (wEnd s 1) = -1) (h1 : 1000000000000 < rdV s 1 (wEnd s 1)) :
    Calls Tryd.prog 47 #[.string s] w fun e w' => e = .returned (.tuple #[.int .i64 (0), .agg #[.int .i64 3, .int .i64 0]]) ∧ Below w.heap.size w w' := by
  have hst := mStart_le s
  rw [hm] at hst
  obtain ⟨f1, f2, f3, f4, f5, f6⟩ := read_facts hw
  have HP : Hid (∀ w, Calls Tryd.prog 39 #[.string s, .string ⟨#[45]⟩] w fun e w' => e = .returned (.bool true) ∧ w' = w) := fun w => by
    have := sh_strings_HasPrefix s ⟨#[45]⟩ w
    rw [show (⟨#[45]⟩ : ByteArray).data.toList = [45] from rfl, prefix_minus, hpre] at this
    exact this
  have H2 : Hid (∀ w, Calls Tryd.prog 68 #[.string s, .int .i64 1] w fun e w' => e = .returned (.int .i64 (wEnd s 1 : Nat)) ∧ w' = w) := fun w => wholeEnd_any s 1 w (by unfold maxLen; omega) hst
  have H3 : Hid (∀ w, Calls Tryd.prog 69 #[.string s, .int .i64 1, .int .i64 (wEnd s 1 : Nat)] w fun e w' => e = .returned (.tuple #[.int .i64 0, .bool false]) ∧ w' = w) := fun w => wrongAt_no s 1 (wEnd s 1) w hs hw
  have H4 : Hid (∀ w, Calls Tryd.prog 70 #[.int .i64 0, .string (s.extract 1 (wEnd s 1))] w fun e w' => e = .returned (.int .i64 (vTo s 1 0 (wEnd s 1 - 1))) ∧ w' = w) := fun w => by
    have hsz : (s.extract 1 (wEnd s 1)).size = wEnd s 1 - 1 := by rw [ByteArray.size_extract]; omega
    have := withDigits_any 0 (s.extract 1 (wEnd s 1)) w (by omega) (by omega) (by rw [hsz]; unfold maxLen; omega) (fun j hj => by rw [digB_extract s _ _ j (by omega) (by omega)]; exact f5 j (by omega))
    rw [hsz, vTo_extract s _ _ 0 (by omega) _ (Nat.le_refl _)] at this
    exact this
  have H5 : Hid (∀ w, Calls Tryd.prog 70 #[.int .i64 (vTo s 1 0 (wEnd s 1 - 1)), .string (s.extract (wEnd s 1 + 1) s.size)] w fun e w' => e = .returned (.int .i64 (rdV s 1 (wEnd s 1))) ∧ w' = w) := fun w => by
    have hsz : (s.extract (wEnd s 1 + 1) s.size).size = 2 := by rw [ByteArray.size_extract]; omega
    have := withDigits_any (vTo s 1 0 (wEnd s 1 - 1)) (s.extract (wEnd s 1 + 1) s.size) w f3.1 f3.2 (by rw [hsz]; unfold maxLen; omega) (fun j hj => by rw [digB_extract s _ _ j (by omega) (by omega)]; exact f6 j (by omega))
    rw [hsz, vTo_extract s _ _ _ (by omega) _ (by omega)] at this
    exact this
  clear hw hm hpre hst f5 f6 f3
  generalize wEnd s 1 = p at *
  generalize vTo s 1 0 (p - 1) = v1 at *
  generalize rdV s 1 p = V at *
  obtain ⟨f40, f41⟩ := f4
  have g1 : (1 : Int) < (p : Int) := by omega
  have g2 : (p : Int) + 1 < (s.size : Int) := by omega
  have g3 : (p : Int) < (s.size : Int) := by omega
  have g4 : p < s.size := by omega
  have g5 : p + 1 < s.size := by omega
  have HF := Lib.hid f2
  clear f2
  go_enter Tryd.func47, Tryd.ntmps47
  go_wp2_with fail
  refine (HP.out _).mono ?_
  rintro e w1 ⟨rfl, rfl⟩
  go_wp2_with fail
  refine (H2.out _).mono ?_
  rintro e w2 ⟨rfl, rfl⟩
  go_wp2_with fail
  refine (H3.out _).mono ?_
  rintro e w3 ⟨rfl, rfl⟩
  go_wp2_with fail
  go_quiet ((first | (go_at_call_of 70 (Value.string (s.extract 1 p)); exact Calls.quiet_of_same (H4.out _)) | (go_at_call 70; exact Calls.quiet_of_same (H5.out _))))
  go_wp2
  all_goals refine bodyPost_ret (v := .tuple #[.int .i64 _, .agg #[.int .i64 3, .int .i64 0]]) (by simp [results, Tryd.results47, go_sem] <;> rfl) rfl ⟨rfl, ?_⟩
  all_goals exact ((below_drN ((Below.refl _ _).alloc (Nat.le_refl _) _) _).setCell (p := ⟨w.heap.size, 0, none⟩) (Nat.le_refl _) _).setCell (p := ⟨w.heap.size, 1, none⟩) (Nat.le_refl _) _
set_option maxHeartbeats 2000000 in
theorem read_zero1 (s : ByteArray) (w : World) (hs : s.size ≤ 140737488351232) (hm : mStart s = 1) (hpre : decide (bt s 0 = 45) = true) (hw : wrAt s 1 (wEnd s 1) = -1) (h1 : rdV s 1 (wEnd s 1) ≤ 0) :
    Calls Tryd.prog 47 #[.string s] w fun e w' => e = .returned (.tuple #[.int .i64 (0), .agg #[.int .i64 1, .int .i64 0]]) ∧ Below w.heap.size w w' := by
  have hst := mStart_le s
  rw [hm] at hst
  obtain ⟨f1, f2, f3, f4, f5, f6⟩ := read_facts hw
  have HP : Hid (∀ w, Calls Tryd.prog 39 #[.string s, .string ⟨#[45]⟩] w fun e w' => e = .returned (.bool true) ∧ w' = w) := fun w => by
    have := sh_strings_HasPrefix s ⟨#[45]⟩ w
    rw [show (⟨#[45]⟩ : ByteArray).data.toList = [45] from rfl, prefix_minus, hpre] at this
    exact this
  have H2 : Hid (∀ w, Calls Tryd.prog 68 #[.string s, .int .i64 1] w fun e w' => e = .returned (.int .i64 (wEnd s 1 : Nat)) ∧ w' = w) := fun w => wholeEnd_any s 1 w (by unfold maxLen; omega) hst
  have H3 : Hid (∀ w, Calls Tryd.prog 69 #[.string s, .int .i64 1, .int .i64 (wEnd s 1 : Nat)] w fun e w' => e = .returned (.tuple #[.int .i64 0, .bool false]) ∧ w' = w) := fun w => wrongAt_no s 1 (wEnd s 1) w hs hw
  have H4 : Hid (∀ w, Calls Tryd.prog 70 #[.int .i64 0, .string (s.extract 1 (wEnd s 1))] w fun e w' => e = .returned (.int .i64 (vTo s 1 0 (wEnd s 1 - 1))) ∧ w' = w) := fun w => by
    have hsz : (s.extract 1 (wEnd s 1)).size = wEnd s 1 - 1 := by rw [ByteArray.size_extract]; omega
    have := withDigits_any 0 (s.extract 1 (wEnd s 1)) w (by omega) (by omega) (by rw [hsz]; unfold maxLen; omega) (fun j hj => by rw [digB_extract s _ _ j (by omega) (by omega)]; exact f5 j (by omega))
    rw [hsz, vTo_extract s _ _ 0 (by omega) _ (Nat.le_refl _)] at this
    exact this
  have H5 : Hid (∀ w, Calls Tryd.prog 70 #[.int .i64 (vTo s 1 0 (wEnd s 1 - 1)), .string (s.extract (wEnd s 1 + 1) s.size)] w fun e w' => e = .returned (.int .i64 (rdV s 1 (wEnd s 1))) ∧ w' = w) := fun w => by
    have hsz : (s.extract (wEnd s 1 + 1) s.size).size = 2 := by rw [ByteArray.size_extract]; omega
    have := withDigits_any (vTo s 1 0 (wEnd s 1 - 1)) (s.extract (wEnd s 1 + 1) s.size) w f3.1 f3.2 (by rw [hsz]; unfold maxLen; omega) (fun j hj => by rw [digB_extract s _ _ j (by omega) (by omega)]; exact f6 j (by omega))
    rw [hsz, vTo_extract s _ _ _ (by omega) _ (by omega)] at this
    exact this
  clear hw hm hpre hst f5 f6 f3
  generalize wEnd s 1 = p at *
  generalize vTo s 1 0 (p - 1) = v1 at *
  generalize rdV s 1 p = V at *
  obtain ⟨f40, f41⟩ := f4
  have g1 : (1 : Int) < (p : Int) := by omega
  have g2 : (p : Int) + 1 < (s.size : Int) := by omega
  have g3 : (p : Int) < (s.size : Int) := by omega
  have g4 : p < s.size := by omega
  have g5 : p + 1 < s.size := by omega
  have HF := Lib.hid f2
  clear f2
  go_enter Tryd.func47, Tryd.ntmps47
  go_wp2_with fail
  refine (HP.out _).mono ?_
  rintro e w1 ⟨rfl, rfl⟩
  go_wp2_with fail
  refine (H2.out _).mono ?_
  rintro e w2 ⟨rfl, rfl⟩
  go_wp2_with fail
  refine (H3.out _).mono ?_
  rintro e w3 ⟨rfl, rfl⟩
  go_wp2_with fail
  go_quiet ((first | (go_at_call_of 70 (Value.string (s.extract 1 p)); exact Calls.quiet_of_same (H4.out _)) | (go_at_call 70; exact Calls.quiet_of_same (H5.out _))))
  go_wp2
  all_goals refine bodyPost_ret (v := .tuple #[.int .i64 _, .agg #[.int .i64 1, .int .i64 0]]) (by simp [results, Tryd.results47, go_sem] <;> rfl) rfl ⟨rfl, ?_⟩
  all_goals exact ((below_drN ((Below.refl _ _).alloc (Nat.le_refl _) _) _).setCell (p := ⟨w.heap.size, 0, none⟩) (Nat.le_refl _) _).setCell (p := ⟨w.heap.size, 1, none⟩) (Nat.le_refl _) _

/-- money.Read AT EVERY TEXT. -/
theorem read_any (s : ByteArray) (w : World) (hs : s.size ≤ 140737488351232) :
    Calls Tryd.prog 47 #[.string s] w fun e w' => e = .returned (.tuple #[.int .i64 (rmN s), .agg #[.int .i64 (rmE s), .int .i64 (rmA s)]]) ∧ Below w.heap.size w w' := by
  by_cases hm : bt s 0 = 45
  · have hst : mStart s = 1 := by unfold mStart; rw [if_pos hm]
    by_cases hw : wrAt s 1 (wEnd s 1) = -1
    · obtain ⟨_, _, _, f4, _⟩ := read_facts hw
      have eA : rmA s = 0 := by unfold rmA; rw [hst, if_neg (by simp [hw])]
      have eE : rmE s = if rdV s 1 (wEnd s 1) = 0 then 1 else if 1000000000000 < rdV s 1 (wEnd s 1) then 3 else 0 := by
        unfold rmE; rw [hst, if_neg (by simp [hw])]; simp
      by_cases h0 : rdV s 1 (wEnd s 1) = 0
      · have e1 : rmE s = 1 := by rw [eE, if_pos h0]
        have e2 : rmN s = 0 := by unfold rmN; rw [if_pos (by rw [e1]; decide)]
        rw [eA, e1, e2]
        exact read_zero1 s w hs hst (decide_eq_true hm) hw (by omega)
      · by_cases h1 : 1000000000000 < rdV s 1 (wEnd s 1)
        · have e1 : rmE s = 3 := by rw [eE, if_neg h0, if_pos h1]
          have e2 : rmN s = 0 := by unfold rmN; rw [if_pos (by rw [e1]; decide)]
          rw [eA, e1, e2]
          exact read_range1 s w hs hst (decide_eq_true hm) hw h1
        · have e1 : rmE s = 0 := by rw [eE, if_neg h0, if_neg h1]
          have e2 : rmN s = -rdV s 1 (wEnd s 1) := by unfold rmN; rw [if_neg (by rw [e1]; simp), hst, if_pos rfl]
          rw [eA, e1, e2]
          exact read_ok1 s w hs hst (decide_eq_true hm) hw (by omega) (by omega)
    · exact read_wrong1 s w hs hst (decide_eq_true hm) hw
  · have hst : mStart s = 0 := by unfold mStart; rw [if_neg hm]
    by_cases hw : wrAt s 0 (wEnd s 0) = -1
    · obtain ⟨_, _, _, f4, _⟩ := read_facts hw
      have eA : rmA s = 0 := by unfold rmA; rw [hst, if_neg (by simp [hw])]
      have eE : rmE s = if 1000000000000 < rdV s 0 (wEnd s 0) then 3 else 0 := by
        unfold rmE; rw [hst, if_neg (by simp [hw]), if_neg (by simp)]
      by_cases h1 : 1000000000000 < rdV s 0 (wEnd s 0)
      · have e1 : rmE s = 3 := by rw [eE, if_pos h1]
        have e2 : rmN s = 0 := by unfold rmN; rw [if_pos (by rw [e1]; decide)]
        rw [eA, e1, e2]
        exact read_range0 s w hs hst (decide_eq_false hm) hw h1
      · have e1 : rmE s = 0 := by rw [eE, if_neg h1]
        have e2 : rmN s = rdV s 0 (wEnd s 0) := by unfold rmN; rw [if_neg (by rw [e1]; simp), hst, if_neg (by decide)]
        by_cases h0 : rdV s 0 (wEnd s 0) = 0
        · rw [eA, e1, e2, h0]
          exact read_zero0 s w hs hst (decide_eq_false hm) hw (by omega)
        · rw [eA, e1, e2]
          exact read_ok0 s w hs hst (decide_eq_false hm) hw (by omega) (by omega)
    · exact read_wrong0 s w hs hst (decide_eq_false hm) hw
end Go.Proofs.YtmchanddfodhaaaDoor.Mny
