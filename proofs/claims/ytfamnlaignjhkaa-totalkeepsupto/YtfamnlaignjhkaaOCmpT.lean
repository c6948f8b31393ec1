/-
  Promise M: how two totals stand: the walks of compare and of the reference's Ahead; the order that they tell.
-/
import Derived.Test.YtfamnlaignjhkaaOCmp
namespace Go.Proofs.Ytfamnlaignjhkaa
open Go.RowKit Go.Sort

def ttV (x : Tt) : Array Value := #[.int .i64 x.per, .string x.nam, .int .i64 x.yr, .int .i64 x.mon]
set_option maxRecDepth 100000 in
set_option maxHeartbeats 2000000 in
theorem compare_any (p1 y1 m1 p2 y2 m2 : Int) (s1 s2 : ByteArray) (w : World) :
    Calls Try.prog 30 #[.agg #[.int .i64 p1, .string s1, .int .i64 y1, .int .i64 m1], .agg #[.int .i64 p2, .string s2, .int .i64 y2, .int .i64 m2]] w fun e w' => e = .returned (.int .i64 (cmpT ⟨p1, s1, y1, m1⟩ ⟨p2, s2, y2, m2⟩)) ∧ ∃ q os, w' = grow (w.drewN q) os := by
  have HE : Hid (cmpT ⟨p1, s1, y1, m1⟩ ⟨p2, s2, y2, m2⟩ = or3 (ciI p1 p2) (ciI y1 y2) (ciS s1 s2)) := rfl
  go_enter Try.func30, Try.ntmps30
  go_wp2_with fail
  have HG : Hid (∃ os, (w.alloc (.cells #[.int .i64 p1, .string s1, .int .i64 y1, .int .i64 m1] 50)).alloc (.cells #[.int .i64 p2, .string s2, .int .i64 y2, .int .i64 m2] 50) = grow w os) := ⟨_, by rw [alloc_eq_grow, alloc_eq_grow, grow_grow]⟩
  have k0 : ((w.alloc (.cells #[.int .i64 p1, .string s1, .int .i64 y1, .int .i64 m1] 50)).alloc (.cells #[.int .i64 p2, .string s2, .int .i64 y2, .int .i64 m2] 50)).cell? ⟨w.heap.size, 0, none⟩ = some (.int .i64 p1) := by simp
  have k1 : ((w.alloc (.cells #[.int .i64 p1, .string s1, .int .i64 y1, .int .i64 m1] 50)).alloc (.cells #[.int .i64 p2, .string s2, .int .i64 y2, .int .i64 m2] 50)).cell? ⟨w.heap.size, 1, none⟩ = some (.string s1) := by simp
  have k2 : ((w.alloc (.cells #[.int .i64 p1, .string s1, .int .i64 y1, .int .i64 m1] 50)).alloc (.cells #[.int .i64 p2, .string s2, .int .i64 y2, .int .i64 m2] 50)).cell? ⟨w.heap.size, 2, none⟩ = some (.int .i64 y1) := by simp
  have k3 : ((w.alloc (.cells #[.int .i64 p1, .string s1, .int .i64 y1, .int .i64 m1] 50)).alloc (.cells #[.int .i64 p2, .string s2, .int .i64 y2, .int .i64 m2] 50)).cell? ⟨w.heap.size + 1, 0, none⟩ = some (.int .i64 p2) := by simp
  have k4 : ((w.alloc (.cells #[.int .i64 p1, .string s1, .int .i64 y1, .int .i64 m1] 50)).alloc (.cells #[.int .i64 p2, .string s2, .int .i64 y2, .int .i64 m2] 50)).cell? ⟨w.heap.size + 1, 1, none⟩ = some (.string s2) := by simp
  have k5 : ((w.alloc (.cells #[.int .i64 p1, .string s1, .int .i64 y1, .int .i64 m1] 50)).alloc (.cells #[.int .i64 p2, .string s2, .int .i64 y2, .int .i64 m2] 50)).cell? ⟨w.heap.size + 1, 2, none⟩ = some (.int .i64 y2) := by simp
  generalize ((w.alloc (.cells #[.int .i64 p1, .string s1, .int .i64 y1, .int .i64 m1] 50)).alloc (.cells #[.int .i64 p2, .string s2, .int .i64 y2, .int .i64 m2] 50)) = W at *
  generalize w.heap.size + 1 = g1 at *
  generalize w.heap.size = g0 at *
  go_region_held3 (fun w' => w'.cell? ⟨g0, 0, none⟩ = some (.int .i64 p1) ∧ w'.cell? ⟨g0, 1, none⟩ = some (.string s1) ∧ w'.cell? ⟨g0, 2, none⟩ = some (.int .i64 y1) ∧ w'.cell? ⟨g1, 0, none⟩ = some (.int .i64 p2) ∧ w'.cell? ⟨g1, 1, none⟩ = some (.string s2) ∧ w'.cell? ⟨g1, 2, none⟩ = some (.int .i64 y2)) (go_keep)
    (first
      | (go_at_call 43; refine (or_any _ (ciI p1 p2) (ciI y1 y2) (ciS s1 s2) _ (by simp) (by simp) (by simp)).mono ?_; rintro e w' ⟨rfl, h'⟩; subst w')
      | (go_at_call 45; refine (compareS _ _ _).mono ?_; rintro e w' ⟨rfl, h'⟩; subst w')
      | (go_at_call 44; refine (compareI _ _ _).mono ?_; rintro e w' ⟨rfl, h'⟩; subst w'))
  go_wp2_with fail
  go_ret
  refine ⟨oret_int HE.out.symm, ?_⟩
  obtain ⟨os, hos⟩ := HG.out
  refine ⟨1, os ++ #[.cells #[.int .i64 (ciI p1 p2), .int .i64 (ciI y1 y2), .int .i64 (ciS s1 s2)] 3], ?_⟩
  rw [hos, alloc_eq_grow]
  rw [← grow_grow]
  rfl
set_option maxHeartbeats 1000000 in
theorem ahead_ref (p1 y1 m1 p2 y2 m2 : Int) (s1 s2 : ByteArray) (w : World) :
    Calls Try.prog 32 #[.agg #[.int .i64 p1, .string s1, .int .i64 y1, .int .i64 m1], .agg #[.int .i64 p2, .string s2, .int .i64 y2, .int .i64 m2]] w fun e w' => e = .returned (.bool (aheadT ⟨p1, s1, y1, m1⟩ ⟨p2, s2, y2, m2⟩)) ∧ Below w.heap.size w w' := by
  have HB := Lib.hid ((obelow_box w (.cells #[.int .i64 p1, .string s1, .int .i64 y1, .int .i64 m1] 50)).alloc (by simp) (.cells #[.int .i64 p2, .string s2, .int .i64 y2, .int .i64 m2] 50))
  by_cases h1 : p1 = p2
  · by_cases h2 : y1 = y2
    · have HE : Hid (aheadT ⟨p1, s1, y1, m1⟩ ⟨p2, s2, y2, m2⟩ = Op.bytesLess s1.toList s2.toList) := Lib.hid (by unfold aheadT; simp only; rw [if_pos h1, if_pos h2]; rfl)
      have h1' : (p1 != p2) = false := by simp [h1]
      have h2' : (y1 != y2) = false := by simp [h2]
      clear h1 h2
      go_enter Try.func32, Try.ntmps32
      go_wp2_with fail
      go_ret
      exact ⟨oret_bool HE.out.symm, HB.out⟩
    · have HE : Hid (aheadT ⟨p1, s1, y1, m1⟩ ⟨p2, s2, y2, m2⟩ = decide (y1 < y2)) := Lib.hid (by unfold aheadT; simp only; rw [if_pos h1, if_neg h2])
      have h1' : (p1 != p2) = false := by simp [h1]
      have h2' : (y1 != y2) = true := by simp [h2]
      clear h1 h2
      go_enter Try.func32, Try.ntmps32
      go_wp2_with fail
      go_ret
      exact ⟨oret_bool HE.out.symm, HB.out⟩
  · have HE : Hid (aheadT ⟨p1, s1, y1, m1⟩ ⟨p2, s2, y2, m2⟩ = decide (p1 < p2)) := Lib.hid (by unfold aheadT; simp only; rw [if_neg h1])
    have h1' : (p1 != p2) = true := by simp [h1]
    clear h1
    go_enter Try.func32, Try.ntmps32
    go_wp2_with fail
    go_ret
    exact ⟨oret_bool HE.out.symm, HB.out⟩
end Go.Proofs.Ytfamnlaignjhkaa
