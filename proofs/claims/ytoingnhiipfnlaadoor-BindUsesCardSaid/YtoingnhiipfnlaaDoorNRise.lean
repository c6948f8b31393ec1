/-
  Promise H1: do names rise? Walks of Rise, for amounts and for tables.
-/
import Derived.Test.YtoingnhiipfnlaaDoorNTab
import Derived.Lib.QuietBelow
import Derived.Laws.Cover1
namespace Go.Proofs.YtoingnhiipfnlaaDoor
open Go.RowKit Go.Sort

/-- Is a text less than another one, or the same, byte by byte? -/
def leS (a b : ByteArray) : Bool := Op.bytesLess a.toList b.toList || a.toList == b.toList
/-- Do names rise? -/
def upN (f : Nat → ByteArray) (n : Nat) : Bool := (List.range (n - 1)).all fun j => !leS (f (j + 1)) (f j)
theorem upN_iff {f : Nat → ByteArray} {n : Nat} : upN f n = true ↔ ∀ j, j + 1 < n → leS (f (j + 1)) (f j) = false := by
  unfold upN
  rw [List.all_eq_true]
  constructor
  · intro h j hj
    have := h j (List.mem_range.2 (by omega))
    simpa using this
  · intro h j hj
    have := h j (by have := List.mem_range.1 hj; omega)
    simpa using this
theorem upN_not {f : Nat → ByteArray} {n : Nat} {j : Nat} (hj : j + 1 < n) (h : leS (f (j + 1)) (f j) = true) : upN f n = false := by
  rw [Bool.eq_false_iff]
  intro e
  have := upN_iff.1 e j hj
  rw [h] at this
  cases this
set_option maxHeartbeats 1000000 in
theorem amountName_any (s : ByteArray) (m : Int) (w : World) :
    Calls Tryd.prog 61 #[.agg #[.string s, .int .i64 m]] w fun e w' => e = .returned (.string s) ∧ Below w.heap.size w w' := by
  go_enter Tryd.func61, Tryd.ntmps61
  go_wp2_with fail
  go_ret
  exact ⟨rfl, kbelow_box _ _⟩
set_option maxHeartbeats 1000000 in
theorem tableName_any (s : ByteArray) (a : Option Addr) (n c : Nat) (w : World) :
    Calls Tryd.prog 64 #[.agg #[.string s, .slice a n c]] w fun e w' => e = .returned (.string s) ∧ Below w.heap.size w w' := by
  go_enter Tryd.func64, Tryd.ntmps64
  go_wp2_with fail
  go_ret
  exact ⟨rfl, kbelow_box _ _⟩
set_option maxRecDepth 100000 in
set_option maxHeartbeats 2000000 in
theorem riseA_any (a : Option Addr) (n cap : Nat) (l : List Am) (w : World) (hc : CameA w a l) (hn : l.length = n) (hm : n ≤ maxLen) :
    Calls Tryd.prog 60 #[.slice a n cap, .func (.func 61) #[] #[]] w fun e w' => e = .returned (.bool (upN (fun j => (anth l j).name) n)) ∧ Below w.heap.size w w' := by
  have hm' : n ≤ 9223372036854775807 := by unfold maxLen at hm; omega
  have HO := Lib.hid (fun h0 => hc.open hn h0)
  clear hm hc
  go_enter Tryd.func60, Tryd.ntmps60
  go_wp2_with fail
  go_loopw [5] (fun i wr => ∃ r : Nat, (r + 1 ≤ n ∨ r = 0) ∧ i = .int .i64 ((r : Int) + 1) ∧ Below w.heap.size w wr ∧ ∀ j, j < r → leS (anth l (j + 1)).name (anth l j).name = false) (fun i _ => n - (intOf i).toNat)
  case atStart => exact ⟨0, .inr rfl, rfl, Below.refl _ _, fun j hj => by omega⟩
  case round =>
    obtain ⟨r, hrk, rfl, hb, hall⟩ := hrel
    have HA := Lib.hid hall
    have HB := Lib.hid hb
    clear hall hb
    by_cases hlt : r + 1 < n
    · have hlt' : (r : Int) + 1 < (n : Int) := by omega
      have hlt0 : (r : Int) < (n : Int) := by omega
      obtain ⟨b, off, rfl, hcell⟩ := HO.out (by omega)
      obtain ⟨x0, x1⟩ := hcell _ HB.out r (by omega)
      obtain ⟨y0, y1⟩ := hcell _ HB.out (r + 1) (by omega)
      clear hcell
      have htn : ((r : Int) + 1).toNat = r + 1 := by omega
      have hi0 : (0 : Int) ≤ (r : Int) + 1 := by omega
      have hr0 : (0 : Int) ≤ (r : Int) := by omega
      have hwr : IntKind.i64.wrap (r : Int) = (r : Int) := IntWalk.i64_in _ (by omega)
      have hwd : IntKind.i64.wrap ((r : Int) + 1 - 1) = (r : Int) := by rw [show (r : Int) + 1 - 1 = r by omega]; exact hwr
      have hd0 : (0 : Int) ≤ (r : Int) + 1 - 1 := by omega
      have hdn : (r : Int) + 1 - 1 < (n : Int) := by omega
      have hdt : ((r : Int) + 1 - 1).toNat = r := by omega
      have k0 := cell_regrown x0
      have k1 := cell_regrown x1
      have k2 := cell_regrown y0
      have k3 := cell_regrown y1
      cases hle : leS (anth l (r + 1)).name (anth l r).name
      · unfold leS at hle
        go_wp2_with fail
        refine wp_region_quiet_below (by kernel_rfl) (by kernel_rfl) ?_
        repeat (quiet_step (exact Calls.regrown_of (amountName_any _ _ _)))
        refine wpQuiet_nil ?_
        intro _ hw'
        obtain ⟨⟨dq, osq⟩, hw''⟩ := hw'
        subst hw''
        go_wp2_with fail
        go_roundw
        case rel =>
          refine ⟨r + 1, .inl (by omega), by go_num, HB.out.trans ((below_regrown wr dq osq).mono HB.out.size), ?_⟩
          intro j hj
          by_cases e : j = r
          · subst e; exact hle
          · exact HA.out j (by omega)
        case measure => simp [intOf]; omega
      · have HF := Lib.hid (upN_not (f := fun j => (anth l j).name) (n := n) hlt hle)
        unfold leS at hle
        go_wp2_with fail
        refine wp_region_quiet_below (by kernel_rfl) (by kernel_rfl) ?_
        repeat (quiet_step (exact Calls.regrown_of (amountName_any _ _ _)))
        refine wpQuiet_nil ?_
        intro _ hw'
        obtain ⟨⟨dq, osq⟩, hw''⟩ := hw'
        subst hw''
        go_wp2_with fail
        go_ret
        exact ⟨kret_bool HF.out.symm, HB.out.trans ((below_regrown wr dq osq).mono HB.out.size)⟩
    · have hnl : ¬ ((r : Int) + 1 < (n : Int)) := by omega
      have HF := Lib.hid (upN_iff (f := fun j => (anth l j).name) (n := n).2 (fun j hj => HA.out j (by omega)))
      go_wp2_with fail
      go_ret
      exact ⟨kret_bool HF.out.symm, HB.out⟩
set_option maxRecDepth 100000 in
set_option maxHeartbeats 2000000 in
theorem riseT_any (a : Option Addr) (n cap : Nat) (l : List Tb) (w : World) (hc : CameT w a l) (hn : l.length = n) (hm : n ≤ maxLen) :
    Calls Tryd.prog 63 #[.slice a n cap, .func (.func 64) #[] #[]] w fun e w' => e = .returned (.bool (upN (fun j => (tnth l j).name) n)) ∧ Below w.heap.size w w' := by
  have hm' : n ≤ 9223372036854775807 := by unfold maxLen at hm; omega
  have HO := Lib.hid (fun h0 => hc.open hn h0)
  clear hm hc
  go_enter Tryd.func63, Tryd.ntmps63
  go_wp2_with fail
  go_loopw [5] (fun i wr => ∃ r : Nat, (r + 1 ≤ n ∨ r = 0) ∧ i = .int .i64 ((r : Int) + 1) ∧ Below w.heap.size w wr ∧ ∀ j, j < r → leS (tnth l (j + 1)).name (tnth l j).name = false) (fun i _ => n - (intOf i).toNat)
  case atStart => exact ⟨0, .inr rfl, rfl, Below.refl _ _, fun j hj => by omega⟩
  case round =>
    obtain ⟨r, hrk, rfl, hb, hall⟩ := hrel
    have HA := Lib.hid hall
    have HB := Lib.hid hb
    clear hall hb
    by_cases hlt : r + 1 < n
    · have hlt' : (r : Int) + 1 < (n : Int) := by omega
      have hlt0 : (r : Int) < (n : Int) := by omega
      obtain ⟨b, off, rfl, hcell⟩ := HO.out (by omega)
      obtain ⟨ax, cx, x0, x1, _⟩ := hcell _ HB.out r (by omega)
      obtain ⟨ay, cy, y0, y1, _⟩ := hcell _ HB.out (r + 1) (by omega)
      clear hcell
      have htn : ((r : Int) + 1).toNat = r + 1 := by omega
      have hi0 : (0 : Int) ≤ (r : Int) + 1 := by omega
      have hr0 : (0 : Int) ≤ (r : Int) := by omega
      have hwr : IntKind.i64.wrap (r : Int) = (r : Int) := IntWalk.i64_in _ (by omega)
      have hwd : IntKind.i64.wrap ((r : Int) + 1 - 1) = (r : Int) := by rw [show (r : Int) + 1 - 1 = r by omega]; exact hwr
      have hd0 : (0 : Int) ≤ (r : Int) + 1 - 1 := by omega
      have hdn : (r : Int) + 1 - 1 < (n : Int) := by omega
      have hdt : ((r : Int) + 1 - 1).toNat = r := by omega
      have k0 := cell_regrown x0
      have k1 := cell_regrown x1
      have k2 := cell_regrown y0
      have k3 := cell_regrown y1
      cases hle : leS (tnth l (r + 1)).name (tnth l r).name
      · unfold leS at hle
        go_wp2_with fail
        refine wp_region_quiet_below (by kernel_rfl) (by kernel_rfl) ?_
        repeat (quiet_step (exact Calls.regrown_of (tableName_any _ _ _ _ _)))
        refine wpQuiet_nil ?_
        intro _ hw'
        obtain ⟨⟨dq, osq⟩, hw''⟩ := hw'
        subst hw''
        go_wp2_with fail
        go_roundw
        case rel =>
          refine ⟨r + 1, .inl (by omega), by go_num, HB.out.trans ((below_regrown wr dq osq).mono HB.out.size), ?_⟩
          intro j hj
          by_cases e : j = r
          · subst e; exact hle
          · exact HA.out j (by omega)
        case measure => simp [intOf]; omega
      · have HF := Lib.hid (upN_not (f := fun j => (tnth l j).name) (n := n) hlt hle)
        unfold leS at hle
        go_wp2_with fail
        refine wp_region_quiet_below (by kernel_rfl) (by kernel_rfl) ?_
        repeat (quiet_step (exact Calls.regrown_of (tableName_any _ _ _ _ _)))
        refine wpQuiet_nil ?_
        intro _ hw'
        obtain ⟨⟨dq, osq⟩, hw''⟩ := hw'
        subst hw''
        go_wp2_with fail
        go_ret
        exact ⟨kret_bool HF.out.symm, HB.out.trans ((below_regrown wr dq osq).mono HB.out.size)⟩
    · have hnl : ¬ ((r : Int) + 1 < (n : Int)) := by omega
      have HF := Lib.hid (upN_iff (f := fun j => (tnth l j).name) (n := n).2 (fun j hj => HA.out j (by omega)))
      go_wp2_with fail
      go_ret
      exact ⟨kret_bool HF.out.symm, HB.out⟩
end Go.Proofs.YtoingnhiipfnlaaDoor
