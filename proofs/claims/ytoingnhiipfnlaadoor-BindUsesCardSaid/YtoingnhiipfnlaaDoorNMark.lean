/-
  Promise H3: which lines an expression asks for: the walks of markUsed's part, of every with it, and of markUsed.
-/
import Derived.Test.YtoingnhiipfnlaaDoorNLines
namespace Go.Proofs.YtoingnhiipfnlaaDoor
open Go.RowKit Go.Maps Go.WideMaps

def anyN (f : Nat → Bool) : Nat → Bool
  | 0 => false
  | j + 1 => anyN f j || f j
/-- Is the line with the place j meant by a name in the expression? -/
def Ex.hit (g : ByteArray → Option Nat) (j : Nat) : Ex → Bool
  | .no => false
  | .mk k _ s m kid => (decide (k = 2) && decide (g s = some j)) || anyN (fun i => (kid i).hit g j) m
theorem hit_mk (g : ByteArray → Option Nat) (j : Nat) (k n : Int) (s : ByteArray) (m : Nat) (kid : Nat → Ex) : (Ex.mk k n s m kid).hit g j = ((decide (k = 2) && decide (g s = some j)) || anyN (fun i => (kid i).hit g j) m) := by rw [Ex.hit]
/-- A row of truths of the call's own. -/
def URow (w : World) (ub n : Nat) (u : Nat → Bool) : Prop := ub < w.heap.size ∧ ∀ j, j < n → w.cell? ⟨ub, j, none⟩ = some (.bool (u j)) ∧ w.frozen? ⟨ub, j, none⟩ = false
theorem URow.below {w w' : World} {ub n : Nat} {u : Nat → Bool} (h : URow w ub n u) (hb : Below w.heap.size w w') : URow w' ub n u :=
  ⟨Nat.lt_of_lt_of_le h.1 hb.size, fun j hj => ⟨(hb.cell (p := ⟨ub, j, none⟩) h.1).trans (h.2 j hj).1, (hb.frozen (p := ⟨ub, j, none⟩) h.1).trans (h.2 j hj).2⟩⟩
theorem URow.congr {w : World} {ub n : Nat} {u v : Nat → Bool} (h : URow w ub n u) (he : ∀ j, j < n → u j = v j) : URow w ub n v := ⟨h.1, fun j hj => by rw [← he j hj]; exact h.2 j hj⟩
theorem URow.put {w : World} {ub n : Nat} {u : Nat → Bool} (h : URow w ub n u) {p : Nat} (hp : p < n) : URow (w.setCell ⟨ub, p, none⟩ (.bool true)) ub n (fun j => u j || decide (p = j)) := by
  refine ⟨by simpa using h.1, fun j hj => ?_⟩
  by_cases e : p = j
  · subst e
    refine ⟨?_, ?_⟩
    · rw [World.cell?_setCell_same (h := (h.2 p hp).1)]; simp
    · rw [World.frozen?_setCell]; exact (h.2 p hp).2
  · refine ⟨?_, ?_⟩
    · rw [World.cell?_setCell_other (h := by intro q; injection q with q1 q2; exact e q2)]; simp [e]; exact (h.2 j hj).1
    · rw [World.frozen?_setCell]; exact (h.2 j hj).2
theorem grown_below {w0 w w' : World} {ub : Nat} (h : Below w0.heap.size w0 w) (hg : w.grownBy w' (some ub)) (hub : w0.heap.size ≤ ub) : Below w0.heap.size w0 w' := h.grown hg h.size (fun k hk => by cases hk; exact hub)
theorem grown_box (w : World) (o : Obj) (ub : Nat) : w.grownBy (w.alloc o) (some ub) := World.grownBy_alloc w o _
theorem grown_put (w : World) (ub p : Nat) (v : Value) : w.grownBy (w.setCell ⟨ub, p, none⟩ v) (some ub) := ⟨rfl, rfl, rfl, by simp, fun k _ hne => Below.heap_setCell w ⟨ub, p, none⟩ v k (by intro e; exact hne (by rw [e]))⟩
theorem grown_of_below {w w' : World} (ub : Nat) (h : Below w.heap.size w w') : w.grownBy w' (some ub) := ⟨h.os, h.tape, h.output, h.size, fun k hk _ => h.block k hk⟩
/-- What markUsed's part works with: the map of lines ahead, and the row. -/
def MSt (w0 w : World) (ab sb mb mm ub n : Nat) (g : ByteArray → Option Nat) (u : Nat → Bool) : Prop :=
  Below w0.heap.size w0 w ∧ w.cell? ⟨ab, 0, none⟩ = some (.map (some mb)) ∧ w.cell? ⟨sb, 0, none⟩ = some (.slice (some ⟨ub, 0, none⟩) n n) ∧ MapIs w mb mm g ∧ URow w ub n u ∧ ab ≠ ub ∧ sb ≠ ub ∧ mb ≠ ub ∧ w0.heap.size ≤ ub ∧ ∀ s p, g s = some p → p < n
theorem MSt.below {w0 w w' : World} {ab sb mb mm ub n : Nat} {g : ByteArray → Option Nat} {u : Nat → Bool} (h : MSt w0 w ab sb mb mm ub n g u) (hb : Below w.heap.size w w') : MSt w0 w' ab sb mb mm ub n g u := by
  obtain ⟨h1, h2, h3, h4, h5, h6⟩ := h
  exact ⟨h1.trans (hb.mono h1.size), (hb.cell (p := ⟨ab, 0, none⟩) (blt_of_cell h2)).trans h2, (hb.cell (p := ⟨sb, 0, none⟩) (blt_of_cell h3)).trans h3, h4.below hb, h5.below hb, h6⟩
theorem MSt.put {w0 w : World} {ab sb mb mm ub n : Nat} {g : ByteArray → Option Nat} {u : Nat → Bool} (h : MSt w0 w ab sb mb mm ub n g u) {p : Nat} (hp : p < n) : MSt w0 (w.setCell ⟨ub, p, none⟩ (.bool true)) ab sb mb mm ub n g (fun j => u j || decide (p = j)) := by
  obtain ⟨h1, h2, h3, h4, h5, h6, h7, h8, h9, h10⟩ := h
  refine ⟨grown_below h1 (grown_put w ub p _) h9, ?_, ?_, h4.set _ h8, h5.put hp, h6, h7, h8, h9, h10⟩
  · rw [World.cell?_setCell_other (h := by intro q; injection q with q1 q2; exact h6 q1.symm)]; exact h2
  · rw [World.cell?_setCell_other (h := by intro q; injection q with q1 q2; exact h7 q1.symm)]; exact h3
theorem MSt.congr {w0 w : World} {ab sb mb mm ub n : Nat} {g : ByteArray → Option Nat} {u v : Nat → Bool} (h : MSt w0 w ab sb mb mm ub n g u) (he : ∀ j, j < n → u j = v j) : MSt w0 w ab sb mb mm ub n g v := by
  obtain ⟨h1, h2, h3, h4, h5, h6⟩ := h
  exact ⟨h1, h2, h3, h4, h5.congr he, h6⟩
def MarkRet (w0 w : World) (ab sb mb mm ub n : Nat) (g : ByteArray → Option Nat) (u : Nat → Bool) (e : Ending) (w' : World) : Prop := e = .returned (.bool true) ∧ MSt w0 w' ab sb mb mm ub n g u ∧ w.grownBy w' (some ub)
set_option maxRecDepth 100000 in
set_option maxHeartbeats 1000000 in
theorem mark1_any (k n0 : Int) (s : ByteArray) (a : Option Addr) (m c : Nat) (w0 : World) (ab sb mb mm ub n : Nat) (g : ByteArray → Option Nat) (u : Nat → Bool) (w : World) (hs : s.size ≤ maxLen) (_hn : n ≤ 40) (hst : MSt w0 w ab sb mb mm ub n g u) :
    Calls Tryd.prog 98 #[.agg #[.int .i64 k, .int .i64 n0, .string s, .slice a m c], .pointer (some ⟨ab, 0, none⟩), .pointer (some ⟨sb, 0, none⟩)] w fun e w' => MarkRet w0 w ab sb mb mm ub n g (fun j => u j || (decide (k = 2) && decide (g s = some j))) e w' := by
  have HB0 := Lib.hid (kbelow_box w (.cells #[.int .i64 k, .int .i64 n0, .string s, .slice a m c] 50))
  have HST := Lib.hid (hst.below HB0.out)
  have hkey := key_of hs
  clear hst
  obtain ⟨_, y0, y1, ⟨D, hown, hD⟩, hrow, _, _, _, _, hfit⟩ := HST.out
  have HD := Lib.hid (hD s)
  have HFIT := Lib.hid hfit
  have HROW := Lib.hid hrow
  clear hD hfit hrow
  cases hg : g s with
  | none =>
    have hhas : Maps.has D (.string s.data.toList) = false := by rw [HD.out.1, hg]; rfl
    have HR : Hid (MSt w0 (w.alloc (.cells #[.int .i64 k, .int .i64 n0, .string s, .slice a m c] 50)) ab sb mb mm ub n g (fun j => u j || (decide (k = 2) && decide ((none : Option Nat) = some j)))) := HST.out.congr (fun j _ => by simp)
    go_enter Tryd.func98, Tryd.ntmps98
    go_wp2_with (first
      | (at_lookup; refine wpList_lookup_own_ok_int _ rfl _ _ 60 rfl 9 3 .i64 strLaw Tryd.underlying60 Tryd.underlying3 (zeroInt _) _ _ _ rfl hown _ _ rfl hkey ?_; intro c0 hat hwc; rw [hhas]))
    go_ret
    exact ⟨rfl, HR.out, grown_box _ _ _⟩
  | some p =>
    have hhas : Maps.has D (.string s.data.toList) = true := by rw [HD.out.1, hg]; rfl
    have hp := HFIT.out s p hg
    by_cases hk : k = 2
    · have hp' : (p : Int) < (n : Int) := by omega
      obtain ⟨r0, r1⟩ := HROW.out.2 p hp
      have HR : Hid (MSt w0 ((w.alloc (.cells #[.int .i64 k, .int .i64 n0, .string s, .slice a m c] 50)).setCell ⟨ub, p, none⟩ (.bool true)) ab sb mb mm ub n g (fun j => u j || (decide (k = 2) && decide (some p = some j)))) := (HST.out.put hp).congr (fun j _ => by simp [hk])
      have HAT : Hid (∀ c0 : Int, D.atKey (.string s.data.toList) (.lit (.int .i64 0)) = .lit (.int .i64 c0) → c0 = p) := fun c0 h => by
        have h2 := HD.out.2
        rw [hg, h] at h2
        injection h2 with h2
        injection h2 with _ h2
      subst hk
      go_enter Tryd.func98, Tryd.ntmps98
      go_wp2_with (first
        | (at_lookup; refine wpList_lookup_own_ok_int _ rfl _ _ 60 rfl 9 3 .i64 strLaw Tryd.underlying60 Tryd.underlying3 (zeroInt _) _ _ _ rfl hown _ _ rfl hkey ?_; intro c0 hat hwc; rw [hhas]; have hcp := HAT.out c0 hat; clear hat hwc; subst hcp))
      go_ret
      exact ⟨rfl, HR.out.congr (fun j _ => by simp), (grown_box _ _ _).trans (grown_put _ _ _ _)⟩
    · have hkB : decide (k = 2) = false := decide_eq_false hk
      have hkE : (k == 2) = false := by simpa using hk
      have HR : Hid (MSt w0 (w.alloc (.cells #[.int .i64 k, .int .i64 n0, .string s, .slice a m c] 50)) ab sb mb mm ub n g (fun j => u j || (decide (k = 2) && decide (some p = some j)))) := HST.out.congr (fun j _ => by simp [hk])
      go_enter Tryd.func98, Tryd.ntmps98
      go_wp2_with (first
        | (at_lookup; refine wpList_lookup_own_ok_int _ rfl _ _ 60 rfl 9 3 .i64 strLaw Tryd.underlying60 Tryd.underlying3 (zeroInt _) _ _ _ rfl hown _ _ rfl hkey ?_; intro c0 hat hwc; rw [hhas]))
      go_ret
      exact ⟨rfl, HR.out, grown_box _ _ _⟩
end Go.Proofs.YtoingnhiipfnlaaDoor
