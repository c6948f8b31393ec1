/-
  Promise E1: signs: the walk of sign.
-/
import Derived.Test.YtgiacemmigjloaaDoorTWordW
namespace Go.Proofs.YtgiacemmigjloaaDoor
open Go.RowKit

/-- Does the sign of two bytes stand there? Is the byte a sign? -/
def longB (s : ByteArray) : Bool := Lib.hasPrefix s.data.toList [60, 61]
def signB (c : Int) : Bool := decide (0 ≤ Lib.indexByte [61, 59, 43, 45, 42, 47, 40, 41, 44, 60, 37] c.toNat.toUInt8)
theorem long_size {s : ByteArray} (h : longB s = true) : 2 ≤ s.size := by
  rw [size_toL]
  unfold longB Lib.hasPrefix at h
  exact (List.isPrefixOf_iff_prefix.1 h).length_le
theorem long_any (s : ByteArray) (w : World) : Calls Tryd.prog 26 #[.string s, .string ⟨#[60, 61]⟩] w fun e w' => e = .returned (.bool (longB s)) ∧ w' = w := sh_strings_HasPrefix s ⟨#[60, 61]⟩ w
theorem index_any (c : Int) (w : World) : Calls Tryd.prog 36 #[.string ⟨#[61, 59, 43, 45, 42, 47, 40, 41, 44, 60, 37]⟩, .int .u8 c] w fun e w' => e = .returned (.int .i64 (Lib.indexByte [61, 59, 43, 45, 42, 47, 40, 41, 44, 60, 37] c.toNat.toUInt8)) ∧ w' = w := sh_strings_IndexByte ⟨#[61, 59, 43, 45, 42, 47, 40, 41, 44, 60, 37]⟩ c w

set_option maxRecDepth 100000 in
set_option maxHeartbeats 1000000 in
theorem sign_long (s : ByteArray) (a : Int) (w : World) (h : longB s = true) :
    Calls Tryd.prog 31 #[.string s, .int .i64 a] w fun e w' => e = .returned (tokV 3 (s.extract 0 2) 0 false a) ∧ Below w.heap.size w w' := by
  have h2 := long_size h
  have h2' : (2 : Int) ≤ (s.size : Int) := by omega
  have HL := Lib.hid (fun w => long_any s w)
  rw [h] at HL
  clear h
  go_enter Tryd.func31, Tryd.ntmps31
  go_wp2_with fail
  refine (HL.out _).mono ?_
  rintro e w2 ⟨rfl, h2⟩
  subst w2
  go_wp2_with fail
  refine bodyPost_ret (v := tokV 3 (s.extract 0 2) 0 false a) (by simp [results, Tryd.results31, go_sem, tokV]) rfl ⟨rfl, (Below.refl w.heap.size w).alloc (Nat.le_refl _) _⟩
set_option maxRecDepth 100000 in
set_option maxHeartbeats 1000000 in
theorem sign_gone (s : ByteArray) (a : Int) (w : World) (h : longB s = false) (h0 : 0 < s.size) (hs : signB (bt s 0) = false) :
    Calls Tryd.prog 31 #[.string s, .int .i64 a] w fun e w' => e = .panicked (gone 1 a) ∧ Below w.heap.size w w' := by
  have h0' : (0 : Int) < (s.size : Int) := by omega
  have HL := Lib.hid (fun w => long_any s w)
  rw [h] at HL
  have HI := Lib.hid (fun w => index_any (s[0].toNat : Int) w)
  rw [bt_in h0] at hs
  have hs := of_decide_eq_false hs
  generalize Lib.indexByte [61, 59, 43, 45, 42, 47, 40, 41, 44, 60, 37] ((s[0].toNat : Int)).toNat.toUInt8 = i at *
  have hi : i < 0 := by omega
  clear h hs
  go_enter Tryd.func31, Tryd.ntmps31
  go_wp2_with fail
  refine (HL.out _).mono ?_
  rintro e w2 ⟨rfl, h2⟩
  subst w2
  go_wp2_with fail
  refine (HI.out _).mono ?_
  rintro e w2 ⟨rfl, h2⟩
  subst w2
  go_wp2_with fail
  refine (giveUp_any _ _ _).mono ?_
  rintro e w2 ⟨rfl, rfl⟩
  go_wp2_with fail
  exact ⟨rfl, rfl, (Below.refl w.heap.size w).alloc (Nat.le_refl _) _⟩
set_option maxRecDepth 100000 in
set_option maxHeartbeats 1000000 in
theorem sign_one (s : ByteArray) (a : Int) (w : World) (h : longB s = false) (h0 : 0 < s.size) (hs : signB (bt s 0) = true) :
    Calls Tryd.prog 31 #[.string s, .int .i64 a] w fun e w' => e = .returned (tokV 3 (s.extract 0 1) 0 false a) ∧ Below w.heap.size w w' := by
  have h0' : (0 : Int) < (s.size : Int) := by omega
  have h1' : (1 : Int) ≤ (s.size : Int) := by omega
  have HL := Lib.hid (fun w => long_any s w)
  rw [h] at HL
  have HI := Lib.hid (fun w => index_any (s[0].toNat : Int) w)
  rw [bt_in h0] at hs
  have hs := of_decide_eq_true hs
  generalize Lib.indexByte [61, 59, 43, 45, 42, 47, 40, 41, 44, 60, 37] ((s[0].toNat : Int)).toNat.toUInt8 = i at *
  have hi : decide (i < 0) = false := decide_eq_false (by omega)
  clear h
  go_enter Tryd.func31, Tryd.ntmps31
  go_wp2_with fail
  refine (HL.out _).mono ?_
  rintro e w2 ⟨rfl, h2⟩
  subst w2
  go_wp2_with fail
  refine (HI.out _).mono ?_
  rintro e w2 ⟨rfl, h2⟩
  subst w2
  go_wp2_with fail
  refine bodyPost_ret (v := tokV 3 (s.extract 0 1) 0 false a) (by simp [results, Tryd.results31, go_sem, tokV]) rfl ⟨rfl, (Below.refl w.heap.size w).alloc (Nat.le_refl _) _⟩
end Go.Proofs.YtgiacemmigjloaaDoor
