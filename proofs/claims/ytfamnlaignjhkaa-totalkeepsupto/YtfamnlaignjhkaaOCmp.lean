/-
  Promise M: how two totals stand: the walks of compare, of what it calls, and of the reference's Ahead.
-/
import Derived.Test.YtfamnlaignjhkaaOBase
import Derived.Deep.RegionHeld3
import Derived.Sort.Grow
import Derived.LoopN
namespace Go.Proofs.Ytfamnlaignjhkaa
open Go.RowKit Go.Sort

def ltS (a b : ByteArray) : Bool := Op.bytesLess a.toList b.toList
def ciI (x y : Int) : Int := if x < y then -1 else if y < x then 1 else 0
def ciS (a b : ByteArray) : Int := if ltS a b = true then -1 else if (a.toList == b.toList) = true then 0 else 1
/-- The first one that is not 0. -/
def or3 (x y z : Int) : Int := if x = 0 then (if y = 0 then z else y) else x
def cmpT (a b : Tt) : Int := or3 (ciI a.per b.per) (ciI a.yr b.yr) (ciS a.nam b.nam)
def aheadT (a b : Tt) : Bool := if a.per = b.per then (if a.yr = b.yr then ltS a.nam b.nam else decide (a.yr < b.yr)) else decide (a.per < b.per)
theorem isNaNI (x : Int) (w : World) : Calls Try.prog 50 #[.int .i64 x] w fun e w' => e = .returned (.bool false) ∧ w' = w := by
  go_enter Try.func50, Try.ntmps50
  go_wp2_with fail
  go_ret
  exact ⟨oret_bool (by simp), rfl⟩
theorem isNaNS (x : ByteArray) (w : World) : Calls Try.prog 51 #[.string x] w fun e w' => e = .returned (.bool false) ∧ w' = w := by
  go_enter Try.func51, Try.ntmps51
  go_wp2_with fail
  go_ret
  exact ⟨oret_bool (by simp), rfl⟩
set_option maxHeartbeats 1000000 in
theorem compareI (x y : Int) (w : World) : Calls Try.prog 44 #[.int .i64 x, .int .i64 y] w fun e w' => e = .returned (.int .i64 (ciI x y)) ∧ w' = w := by
  by_cases h1 : x < y
  · have H : Hid (ciI x y = -1) := Lib.hid (by unfold ciI; rw [if_pos h1])
    go_enter Try.func44, Try.ntmps44
    go_wp2_with (first | (go_at_call 50; refine (isNaNI _ _).mono ?_; rintro e w' ⟨rfl, h'⟩; subst w'))
    go_ret
    exact ⟨oret_int H.out.symm, rfl⟩
  · by_cases h2 : y < x
    · have H : Hid (ciI x y = 1) := Lib.hid (by unfold ciI; rw [if_neg h1, if_pos h2])
      have h1' : decide (x < y) = false := decide_eq_false h1
      clear h1
      go_enter Try.func44, Try.ntmps44
      go_wp2_with (first | (go_at_call 50; refine (isNaNI _ _).mono ?_; rintro e w' ⟨rfl, h'⟩; subst w'))
      go_ret
      exact ⟨oret_int H.out.symm, rfl⟩
    · have H : Hid (ciI x y = 0) := Lib.hid (by unfold ciI; rw [if_neg h1, if_neg h2])
      have h1' : decide (x < y) = false := decide_eq_false h1
      have h2' : decide (y < x) = false := decide_eq_false h2
      clear h1 h2
      go_enter Try.func44, Try.ntmps44
      go_wp2_with (first | (go_at_call 50; refine (isNaNI _ _).mono ?_; rintro e w' ⟨rfl, h'⟩; subst w'))
      go_ret
      exact ⟨oret_int H.out.symm, rfl⟩
set_option maxHeartbeats 1000000 in
theorem compareS (x y : ByteArray) (w : World) : Calls Try.prog 45 #[.string x, .string y] w fun e w' => e = .returned (.int .i64 (ciS x y)) ∧ w' = w := by
  cases h1 : ltS x y
  · cases h2 : (x.toList == y.toList)
    · have H : Hid (ciS x y = 1) := Lib.hid (by unfold ciS; rw [h1, h2]; rfl)
      unfold ltS at h1
      go_enter Try.func45, Try.ntmps45
      go_wp2_with (first | (go_at_call 51; refine (isNaNS _ _).mono ?_; rintro e w' ⟨rfl, h'⟩; subst w'))
      go_ret
      exact ⟨oret_int H.out.symm, rfl⟩
    · have H : Hid (ciS x y = 0) := Lib.hid (by unfold ciS; rw [h1, h2]; rfl)
      unfold ltS at h1
      go_enter Try.func45, Try.ntmps45
      go_wp2_with (first | (go_at_call 51; refine (isNaNS _ _).mono ?_; rintro e w' ⟨rfl, h'⟩; subst w'))
      go_ret
      exact ⟨oret_int H.out.symm, rfl⟩
  · have H : Hid (ciS x y = -1) := Lib.hid (by unfold ciS; rw [h1]; rfl)
    unfold ltS at h1
    go_enter Try.func45, Try.ntmps45
    go_wp2_with (first | (go_at_call 51; refine (isNaNS _ _).mono ?_; rintro e w' ⟨rfl, h'⟩; subst w'))
    go_ret
    exact ⟨oret_int H.out.symm, rfl⟩
set_option maxHeartbeats 1000000 in
theorem or_any (b : Nat) (x y z : Int) (w : World) (h0 : w.cell? ⟨b, 0, none⟩ = some (.int .i64 x)) (h1 : w.cell? ⟨b, 1, none⟩ = some (.int .i64 y)) (h2 : w.cell? ⟨b, 2, none⟩ = some (.int .i64 z)) :
    Calls Try.prog 43 #[.slice (some ⟨b, 0, none⟩) 3 3] w fun e w' => e = .returned (.int .i64 (or3 x y z)) ∧ w' = w := by
  by_cases hx : x = 0
  · have hx' : (x != 0) = false := by simp [hx]
    by_cases hy : y = 0
    · have hy' : (y != 0) = false := by simp [hy]
      by_cases hz : z = 0
      · have hz' : (z != 0) = false := by simp [hz]
        have H : Hid (or3 x y z = 0) := Lib.hid (by unfold or3; rw [if_pos hx, if_pos hy, hz])
        clear hx hy hz
        go_enter Try.func43, Try.ntmps43
        go_wp2_with fail
        refine wp_loop_rounds 4 ?_
        rw [rounds_succ]
        go_wp2_with fail
        rw [rounds_succ]
        go_wp2_with fail
        rw [rounds_succ]
        go_wp2_with fail
        rw [rounds_succ]
        go_wp2_with fail
        go_ret
        exact ⟨oret_int H.out.symm, rfl⟩
      · have hz' : (z != 0) = true := by simp [hz]
        have H : Hid (or3 x y z = z) := Lib.hid (by unfold or3; rw [if_pos hx, if_pos hy])
        clear hx hy hz
        go_enter Try.func43, Try.ntmps43
        go_wp2_with fail
        refine wp_loop_rounds 4 ?_
        rw [rounds_succ]
        go_wp2_with fail
        rw [rounds_succ]
        go_wp2_with fail
        rw [rounds_succ]
        go_wp2_with fail
        go_ret
        exact ⟨oret_int H.out.symm, rfl⟩
    · have hy' : (y != 0) = true := by simp [hy]
      have H : Hid (or3 x y z = y) := Lib.hid (by unfold or3; rw [if_pos hx, if_neg hy])
      clear hx hy
      go_enter Try.func43, Try.ntmps43
      go_wp2_with fail
      refine wp_loop_rounds 4 ?_
      rw [rounds_succ]
      go_wp2_with fail
      rw [rounds_succ]
      go_wp2_with fail
      go_ret
      exact ⟨oret_int H.out.symm, rfl⟩
  · have hx' : (x != 0) = true := by simp [hx]
    have H : Hid (or3 x y z = x) := Lib.hid (by unfold or3; rw [if_neg hx])
    clear hx
    go_enter Try.func43, Try.ntmps43
    go_wp2_with fail
    refine wp_loop_rounds 4 ?_
    rw [rounds_succ]
    go_wp2_with fail
    go_ret
    exact ⟨oret_int H.out.symm, rfl⟩
end Go.Proofs.Ytfamnlaignjhkaa
