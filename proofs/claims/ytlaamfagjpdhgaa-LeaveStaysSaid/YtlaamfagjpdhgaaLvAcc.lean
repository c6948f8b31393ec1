/-
  Promise T1: an account in memory; the walks of turn, reach, use.
-/
import Derived.Test.YtlaamfagjpdhgaaLvBase
import Derived.Maps.AppendAt
import Derived.OwnWalk
import Derived.Deep.RegionWith
namespace Go.Proofs.Ytlaamfagjpdhgaa
open Go.RowKit

theorem Own.below {B : Nat} {w w' : World} {b : Nat} {l : List Int} (h : Own w b l) (hb : Below B w w') (hB : b < B) : Own w' b l :=
  ⟨Nat.lt_of_lt_of_le h.1 hb.size, fun j hj => ⟨(hb.cell (p := ⟨b, j, none⟩) hB).trans (h.2 j hj).1, (hb.frozen (p := ⟨b, j, none⟩) hB).trans (h.2 j hj).2⟩⟩
theorem grown_set (w : World) (b i : Nat) (v : Value) : w.grownBy (w.setCell ⟨b, i, none⟩ v) (some b) :=
  ⟨rfl, rfl, rfl, by simp [World.setCell], fun k _ hne => Below.heap_setCell w ⟨b, i, none⟩ v k (fun e => hne (by rw [e]))⟩
theorem grown_setB {a w : World} {b : Nat} (h : a.grownBy w (some b)) (i : Nat) (v : Value) : a.grownBy (w.setCell ⟨b, i, none⟩ v) (some b) := h.trans (grown_set w b i v)
theorem grown_below {a w w' : World} {row : Option Nat} (h : a.grownBy w row) (hb : Below w.heap.size w w') : a.grownBy w' row :=
  h.trans ⟨hb.os, hb.tape, hb.output, hb.size, fun i hi _ => hb.block i hi⟩
/-- An account's nine cells. -/
def acL (h r c y m due had lost : Int) : List Int := [h, r, c, y, m, 1, due, had, lost]
theorem Own.ac {w : World} {g : Nat} {h r c y m due had lost : Int} (o : Own w g (acL h r c y m due had lost)) :
    (w.cell? ⟨g, 0, none⟩ = some (.int .i64 h) ∧ w.cell? ⟨g, 1, none⟩ = some (.int .i64 r) ∧ w.cell? ⟨g, 2, none⟩ = some (.int .i64 c) ∧ w.cell? ⟨g, 3, none⟩ = some (.int .i64 y) ∧ w.cell? ⟨g, 4, none⟩ = some (.int .i64 m) ∧ w.cell? ⟨g, 5, none⟩ = some (.int .i64 1) ∧ w.cell? ⟨g, 6, none⟩ = some (.int .i64 due) ∧ w.cell? ⟨g, 7, none⟩ = some (.int .i64 had) ∧ w.cell? ⟨g, 8, none⟩ = some (.int .i64 lost)) ∧
    (w.frozen? ⟨g, 3, none⟩ = false ∧ w.frozen? ⟨g, 4, none⟩ = false ∧ w.frozen? ⟨g, 6, none⟩ = false ∧ w.frozen? ⟨g, 7, none⟩ = false ∧ w.frozen? ⟨g, 8, none⟩ = false) :=
  ⟨⟨o.cell (j := 0) (by simp [acL]), o.cell (j := 1) (by simp [acL]), o.cell (j := 2) (by simp [acL]), o.cell (j := 3) (by simp [acL]), o.cell (j := 4) (by simp [acL]), o.cell (j := 5) (by simp [acL]), o.cell (j := 6) (by simp [acL]), o.cell (j := 7) (by simp [acL]), o.cell (j := 8) (by simp [acL])⟩,
    o.free (j := 3) (by simp [acL]), o.free (j := 4) (by simp [acL]), o.free (j := 6) (by simp [acL]), o.free (j := 7) (by simp [acL]), o.free (j := 8) (by simp [acL])⟩
theorem Own.set3 {w : World} {g : Nat} {h r c y m due had lost : Int} (o : Own w g (acL h r c y m due had lost)) (v : Int) : Own (w.setCell ⟨g, 3, none⟩ (.int .i64 v)) g (acL h r c v m due had lost) := o.set (j := 3) (by simp [acL]) v
theorem Own.set4 {w : World} {g : Nat} {h r c y m due had lost : Int} (o : Own w g (acL h r c y m due had lost)) (v : Int) : Own (w.setCell ⟨g, 4, none⟩ (.int .i64 v)) g (acL h r c y v due had lost) := o.set (j := 4) (by simp [acL]) v
theorem Own.set6 {w : World} {g : Nat} {h r c y m due had lost : Int} (o : Own w g (acL h r c y m due had lost)) (v : Int) : Own (w.setCell ⟨g, 6, none⟩ (.int .i64 v)) g (acL h r c y m v had lost) := o.set (j := 6) (by simp [acL]) v
theorem Own.set7 {w : World} {g : Nat} {h r c y m due had lost : Int} (o : Own w g (acL h r c y m due had lost)) (v : Int) : Own (w.setCell ⟨g, 7, none⟩ (.int .i64 v)) g (acL h r c y m due v lost) := o.set (j := 7) (by simp [acL]) v
theorem Own.set8 {w : World} {g : Nat} {h r c y m due had lost : Int} (o : Own w g (acL h r c y m due had lost)) (v : Int) : Own (w.setCell ⟨g, 8, none⟩ (.int .i64 v)) g (acL h r c y m due had v) := o.set (j := 8) (by simp [acL]) v
set_option maxRecDepth 100000 in
set_option maxHeartbeats 2000000 in
theorem turn_in (g : Nat) (h r c y m due had lost : Int) (w : World) (ho : Own w g (acL h r c y m due had lost)) (hy0 : 2000 ≤ y) (hy1 : y < 2200) (hm0 : 1 ≤ m) (hm1 : m < 12) :
    Calls Try.prog 83 #[.pointer (some ⟨g, 0, none⟩)] w fun e w' => e = .returned (.tuple #[]) ∧ Own w' g (acL h r c y (m + 1) (dayN y (m + 1) 1) had lost) ∧ w.grownBy w' (some g) := by
  obtain ⟨⟨x0, x1, x2, x3, x4, x5, x6, x7, x8⟩, e3, e4, e6, e7, e8⟩ := ho.ac
  have hlt := ho.1
  have HO := Lib.hid (ho.set4 (m + 1))
  have HG := Lib.hid (grown_set w g 4 (.int .i64 (m + 1)))
  have HD : Hid (dateB y (m + 1) 1 = true) := dateB_iff.2 (by have := md_bd y (m + 1); omega)
  clear ho
  have hno : decide (12 < m + 1) = false := decide_eq_false (by omega)
  go_enter Try.func83, Try.ntmps83
  go_wp2_with (first | (go_at_call 84; refine (Day_ok y (m + 1) 1 _ HD.out).mono ?_; rintro e w1 ⟨rfl, hb1⟩; have HO1 := Lib.hid (HO.out.below hb1 (by simpa [World.setCell] using hlt)); have HG1 := Lib.hid (grown_below HG.out hb1); clear hb1; obtain ⟨⟨z0, z1, z2, z3, z4, z5, z6, z7, z8⟩, f3, f4, f6, f7, f8⟩ := HO1.out.ac))
  refine bodyPost_end (v := .tuple #[]) (by simp [results, Try.results83, go_sem]) rfl ?_
  exact ⟨rfl, HO1.out.set6 _, grown_setB HG1.out 6 _⟩
set_option maxRecDepth 100000 in
set_option maxHeartbeats 2000000 in
theorem turn_year (g : Nat) (h r c y due had lost : Int) (w : World) (ho : Own w g (acL h r c y 12 due had lost)) (hy0 : 2000 ≤ y) (hy1 : y < 2199) :
    Calls Try.prog 83 #[.pointer (some ⟨g, 0, none⟩)] w fun e w' => e = .returned (.tuple #[]) ∧ Own w' g (acL h r c (y + 1) 1 (dayN (y + 1) 1 1) had lost) ∧ w.grownBy w' (some g) := by
  have HD : Hid (dateB (y + 1) 1 1 = true) := dateB_iff.2 (by have := md_bd (y + 1) 1; omega)
  obtain ⟨⟨x0, x1, x2, x3, x4, x5, x6, x7, x8⟩, e3, e4, e6, e7, e8⟩ := ho.ac
  have hlt := ho.1
  have HO := Lib.hid (((ho.set4 (12 + 1)).set3 (y + 1)).set4 1)
  have HG := Lib.hid (grown_setB (grown_setB (grown_set w g 4 (.int .i64 (12 + 1))) 3 (.int .i64 (y + 1))) 4 (.int .i64 1))
  clear ho
  go_enter Try.func83, Try.ntmps83
  go_wp2_with (first | (go_at_call 84; refine (Day_ok (y + 1) 1 1 _ HD.out).mono ?_; rintro e w1 ⟨rfl, hb1⟩; have HO1 := Lib.hid (HO.out.below hb1 (by simpa [World.setCell] using hlt)); have HG1 := Lib.hid (grown_below HG.out hb1); clear hb1; obtain ⟨⟨z0, z1, z2, z3, z4, z5, z6, z7, z8⟩, f3, f4, f6, f7, f8⟩ := HO1.out.ac))
  refine bodyPost_end (v := .tuple #[]) (by simp [results, Try.results83, go_sem]) rfl ?_
  exact ⟨rfl, HO1.out.set6 _, grown_setB HG1.out 6 _⟩
set_option maxRecDepth 100000 in
set_option maxHeartbeats 2000000 in
theorem turn_last (g : Nat) (h r c y due had lost : Int) (w : World) (ho : Own w g (acL h r c y 12 due had lost)) (hy0 : y = 2199) :
    Calls Try.prog 83 #[.pointer (some ⟨g, 0, none⟩)] w fun e w' => e = .returned (.tuple #[]) ∧ Own w' g (acL h r c (y + 1) 1 73049 had lost) ∧ w.grownBy w' (some g) := by
  have HD : Hid (dateB (y + 1) 1 1 = false) := by
    unfold Hid
    rw [Bool.eq_false_iff]
    intro q
    have := dateB_iff.1 q
    omega
  have hy1 : 2199 ≤ y := by omega
  have hy2 : y ≤ 2199 := by omega
  clear hy0
  obtain ⟨⟨x0, x1, x2, x3, x4, x5, x6, x7, x8⟩, e3, e4, e6, e7, e8⟩ := ho.ac
  have hlt := ho.1
  have HO := Lib.hid (((ho.set4 (12 + 1)).set3 (y + 1)).set4 1)
  have HG := Lib.hid (grown_setB (grown_setB (grown_set w g 4 (.int .i64 (12 + 1))) 3 (.int .i64 (y + 1))) 4 (.int .i64 1))
  clear ho
  go_enter Try.func83, Try.ntmps83
  go_wp2_with (first | (go_at_call 84; refine (Day_bad (y + 1) 1 1 _ HD.out).mono ?_; rintro e w1 ⟨rfl, hb1⟩; have HO1 := Lib.hid (HO.out.below hb1 (by simpa [World.setCell] using hlt)); have HG1 := Lib.hid (grown_below HG.out hb1); clear hb1; obtain ⟨⟨z0, z1, z2, z3, z4, z5, z6, z7, z8⟩, f3, f4, f6, f7, f8⟩ := HO1.out.ac))
  refine bodyPost_end (v := .tuple #[]) (by simp [results, Try.results83, go_sem]) rfl ?_
  exact ⟨rfl, HO1.out.set6 _, grown_setB HG1.out 6 _⟩
/-- An account for which so many months have begun. -/
def Acc (w : World) (g : Nat) (h r c : Int) (M : Nat) (due had lost : Int) : Prop := Own w g (acL h r c (2000 + (M : Int) / 12) ((M : Int) % 12 + 1) due had lost)
theorem turn_any (g : Nat) (h r c : Int) (M : Nat) (due had lost : Int) (w : World) (ho : Acc w g h r c M due had lost) (hM : M < 2400) :
    Calls Try.prog 83 #[.pointer (some ⟨g, 0, none⟩)] w fun e w' => e = .returned (.tuple #[]) ∧ Acc w' g h r c (M + 1) (fm ((M + 1 : Nat) : Int)) had lost ∧ w.grownBy w' (some g) := by
  unfold Acc at ho ⊢
  by_cases e : (M : Int) % 12 = 11
  · rw [e] at ho
    have e1 : 2000 + ((M + 1 : Nat) : Int) / 12 = 2000 + (M : Int) / 12 + 1 := by omega
    have e2 : ((M + 1 : Nat) : Int) % 12 + 1 = 1 := by omega
    rw [e1, e2]
    by_cases e3 : M = 2399
    · subst e3
      rw [show fm ((2399 + 1 : Nat) : Int) = 73049 from fm_end]
      exact turn_last g h r c _ due had lost w ho (by omega)
    · have hd := (fm_date (M := ((M + 1 : Nat) : Int)) (by omega) (by omega)).2
      rw [e1, e2] at hd
      rw [← hd]
      exact turn_year g h r c _ due had lost w ho (by omega) (by omega)
  · have e1 : 2000 + ((M + 1 : Nat) : Int) / 12 = 2000 + (M : Int) / 12 := by omega
    have e2 : ((M + 1 : Nat) : Int) % 12 + 1 = (M : Int) % 12 + 1 + 1 := by omega
    have hd := (fm_date (M := ((M + 1 : Nat) : Int)) (by omega) (by omega)).2
    rw [e1, e2] at hd
    rw [e1, e2, ← hd]
    exact turn_in g h r c _ _ due had lost w ho (by omega) (by omega) (by omega) (by omega)
end Go.Proofs.Ytlaamfagjpdhgaa
