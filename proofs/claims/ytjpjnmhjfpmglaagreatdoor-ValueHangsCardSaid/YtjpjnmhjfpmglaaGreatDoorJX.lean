/-
  Promise H3: which lines an expression asks for: the walks of markUsed's part, of every with it, and of markUsed.
  Promise H3: the walks of every with markUsed's part, and of markUsed.
  Promise H3: the walk of markUsed.
  Promise H3: on which lines a line hangs: the walk of hangsOn.
  Promise H3: the walk of Uses; what must be in any case (bindBegun).
  Promise H3, I1: what a line hangs on: with another one changed that it does not use it comes to the same.
  Promise H3, I1: lines that are copied, one of them changed: how they lie in memory.
  The walk of the law ValueHangs.
-/
import Derived.Test.YtjpjnmhjfpmglaaGreatDoorJE
import Derived.Test.YtjpjnmhjfpmglaaGreatDoorJH
import Derived.Deep.OwnRows
import Derived.Laws.OwnMore
import Derived.Test.YtjpjnmhjfpmglaaGreatDoorJW
import Derived.BigQuiet
namespace Go.Proofs.YtjpjnmhjfpmglaaGreatDoor
open Go.RowKit Go.Maps Go.WideMaps

def anyN (f : Nat → Bool) : Nat → Bool
  | 0 => false
  | j + 1 => anyN f j || f j
/-- Is the line with the place j meant by a name in the expression? -/
def Ex.hit (g : ByteArray → Option Nat) (j : Nat) : Ex → Bool
  | .no => false
  | .mk k _ s m kid => (decide (k = 2) && decide (g s = some j)) || anyN (fun i => (kid i).hit g j) m
theorem hit_mk (g : ByteArray → Option Nat) (j : Nat) (k n : Int) (s : ByteArray) (m : Nat) (kid : Nat → Ex) : (Ex.mk k n s m kid).hit g j = ((decide (k = 2) && decide (g s = some j)) || anyN (fun i => (kid i).hit g j) m) := by rw [Ex.hit]
/-- A row of truths of the call's own. -/
def URow (w : World) (ub n : Nat) (u : Nat → Bool) : Prop := ub < w.heap.size ∧ ∀ j, j < n → w.cell? ⟨ub, j, none⟩ = some (.bool (u j)) ∧ w.frozen? ⟨ub, j, none⟩ = false
theorem URow.below {w w' : World} {ub n : Nat} {u : Nat → Bool} (h : URow w ub n u) (hb : Below w.heap.size w w') : URow w' ub n u :=
  ⟨Nat.lt_of_lt_of_le h.1 hb.size, fun j hj => ⟨(hb.cell (p := ⟨ub, j, none⟩) h.1).trans (h.2 j hj).1, (hb.frozen (p := ⟨ub, j, none⟩) h.1).trans (h.2 j hj).2⟩⟩
theorem URow.congr {w : World} {ub n : Nat} {u v : Nat → Bool} (h : URow w ub n u) (he : ∀ j, j < n → u j = v j) : URow w ub n v := ⟨h.1, fun j hj => by rw [← he j hj]; exact h.2 j hj⟩
theorem URow.put {w : World} {ub n : Nat} {u : Nat → Bool} (h : URow w ub n u) {p : Nat} (hp : p < n) : URow (w.setCell ⟨ub, p, none⟩ (.bool true)) ub n (fun j => u j || decide (p = j)) := by
  refine ⟨by simpa using h.1, fun j hj => ?_⟩
  by_cases e : p = j
  · subst e
    refine ⟨?_, ?_⟩
    · rw [World.cell?_setCell_same (h := (h.2 p hp).1)]; simp
    · rw [World.frozen?_setCell]; exact (h.2 p hp).2
  · refine ⟨?_, ?_⟩
    · rw [World.cell?_setCell_other (h := by intro q; injection q with q1 q2; exact e q2)]; simp [e]; exact (h.2 j hj).1
    · rw [World.frozen?_setCell]; exact (h.2 j hj).2
theorem grown_below {w0 w w' : World} {ub : Nat} (h : Below w0.heap.size w0 w) (hg : w.grownBy w' (some ub)) (hub : w0.heap.size ≤ ub) : Below w0.heap.size w0 w' := h.grown hg h.size (fun k hk => by cases hk; exact hub)
theorem grown_box (w : World) (o : Obj) (ub : Nat) : w.grownBy (w.alloc o) (some ub) := World.grownBy_alloc w o _
theorem grown_put (w : World) (ub p : Nat) (v : Value) : w.grownBy (w.setCell ⟨ub, p, none⟩ v) (some ub) := ⟨rfl, rfl, rfl, by simp, fun k _ hne => Below.heap_setCell w ⟨ub, p, none⟩ v k (by intro e; exact hne (by rw [e]))⟩
theorem grown_of_below {w w' : World} (ub : Nat) (h : Below w.heap.size w w') : w.grownBy w' (some ub) := ⟨h.os, h.tape, h.output, h.size, fun k hk _ => h.block k hk⟩
/-- What markUsed's part works with: the map of lines ahead, and the row. -/
def MSt (w0 w : World) (ab sb mb mm ub n : Nat) (g : ByteArray → Option Nat) (u : Nat → Bool) : Prop :=
  Below w0.heap.size w0 w ∧ w.cell? ⟨ab, 0, none⟩ = some (.map (some mb)) ∧ w.cell? ⟨sb, 0, none⟩ = some (.slice (some ⟨ub, 0, none⟩) n n) ∧ MapIs w mb mm g ∧ URow w ub n u ∧ ab ≠ ub ∧ sb ≠ ub ∧ mb ≠ ub ∧ w0.heap.size ≤ ub ∧ ∀ s p, g s = some p → p < n
theorem MSt.below {w0 w w' : World} {ab sb mb mm ub n : Nat} {g : ByteArray → Option Nat} {u : Nat → Bool} (h : MSt w0 w ab sb mb mm ub n g u) (hb : Below w.heap.size w w') : MSt w0 w' ab sb mb mm ub n g u := by
  obtain ⟨h1, h2, h3, h4, h5, h6⟩ := h
  exact ⟨h1.trans (hb.mono h1.size), (hb.cell (p := ⟨ab, 0, none⟩) (blt_of_cell h2)).trans h2, (hb.cell (p := ⟨sb, 0, none⟩) (blt_of_cell h3)).trans h3, h4.below hb, h5.below hb, h6⟩
theorem MSt.put {w0 w : World} {ab sb mb mm ub n : Nat} {g : ByteArray → Option Nat} {u : Nat → Bool} (h : MSt w0 w ab sb mb mm ub n g u) {p : Nat} (hp : p < n) : MSt w0 (w.setCell ⟨ub, p, none⟩ (.bool true)) ab sb mb mm ub n g (fun j => u j || decide (p = j)) := by
  obtain ⟨h1, h2, h3, h4, h5, h6, h7, h8, h9, h10⟩ := h
  refine ⟨grown_below h1 (grown_put w ub p _) h9, ?_, ?_, h4.set _ h8, h5.put hp, h6, h7, h8, h9, h10⟩
  · rw [World.cell?_setCell_other (h := by intro q; injection q with q1 q2; exact h6 q1.symm)]; exact h2
  · rw [World.cell?_setCell_other (h := by intro q; injection q with q1 q2; exact h7 q1.symm)]; exact h3
theorem MSt.congr {w0 w : World} {ab sb mb mm ub n : Nat} {g : ByteArray → Option Nat} {u v : Nat → Bool} (h : MSt w0 w ab sb mb mm ub n g u) (he : ∀ j, j < n → u j = v j) : MSt w0 w ab sb mb mm ub n g v := by
  obtain ⟨h1, h2, h3, h4, h5, h6⟩ := h
  exact ⟨h1, h2, h3, h4, h5.congr he, h6⟩
def MarkRet (w0 w : World) (ab sb mb mm ub n : Nat) (g : ByteArray → Option Nat) (u : Nat → Bool) (e : Ending) (w' : World) : Prop := e = .returned (.bool true) ∧ MSt w0 w' ab sb mb mm ub n g u ∧ w.grownBy w' (some ub)
set_option maxRecDepth 100000 in
set_option maxHeartbeats 1000000 in
theorem mark1_any (k n0 : Int) (s : ByteArray) (a : Option Addr) (m c : Nat) (w0 : World) (ab sb mb mm ub n : Nat) (g : ByteArray → Option Nat) (u : Nat → Bool) (w : World) (hs : s.size ≤ maxLen) (_hn : n ≤ 40) (hst : MSt w0 w ab sb mb mm ub n g u) :
    Calls Tryz.prog 94 #[.agg #[.int .i64 k, .int .i64 n0, .string s, .slice a m c], .pointer (some ⟨ab, 0, none⟩), .pointer (some ⟨sb, 0, none⟩)] w fun e w' => MarkRet w0 w ab sb mb mm ub n g (fun j => u j || (decide (k = 2) && decide (g s = some j))) e w' := by
  have HB0 := Lib.hid (kbelow_box w (.cells #[.int .i64 k, .int .i64 n0, .string s, .slice a m c] 42))
  have HST := Lib.hid (hst.below HB0.out)
  have hkey := key_of hs
  clear hst
  obtain ⟨_, y0, y1, ⟨D, hown, hD⟩, hrow, _, _, _, _, hfit⟩ := HST.out
  have HD := Lib.hid (hD s)
  have HFIT := Lib.hid hfit
  have HROW := Lib.hid hrow
  clear hD hfit hrow
  cases hg : g s with
  | none =>
    have hhas : Maps.has D (.string s.data.toList) = false := by rw [HD.out.1, hg]; rfl
    have HR : Hid (MSt w0 (w.alloc (.cells #[.int .i64 k, .int .i64 n0, .string s, .slice a m c] 42)) ab sb mb mm ub n g (fun j => u j || (decide (k = 2) && decide ((none : Option Nat) = some j)))) := HST.out.congr (fun j _ => by simp)
    go_enter Tryz.func94, Tryz.ntmps94
    go_wp2_with (first
      | (at_lookup; refine wpList_lookup_own_ok_int _ rfl _ _ 62 rfl 9 3 .i64 strLaw Tryz.underlying62 Tryz.underlying3 (zeroInt _) _ _ _ rfl hown _ _ rfl hkey ?_; intro c0 hat hwc; rw [hhas]))
    go_ret
    exact ⟨rfl, HR.out, grown_box _ _ _⟩
  | some p =>
    have hhas : Maps.has D (.string s.data.toList) = true := by rw [HD.out.1, hg]; rfl
    have hp := HFIT.out s p hg
    by_cases hk : k = 2
    · have hp' : (p : Int) < (n : Int) := by omega
      obtain ⟨r0, r1⟩ := HROW.out.2 p hp
      have HR : Hid (MSt w0 ((w.alloc (.cells #[.int .i64 k, .int .i64 n0, .string s, .slice a m c] 42)).setCell ⟨ub, p, none⟩ (.bool true)) ab sb mb mm ub n g (fun j => u j || (decide (k = 2) && decide (some p = some j)))) := (HST.out.put hp).congr (fun j _ => by simp [hk])
      have HAT : Hid (∀ c0 : Int, D.atKey (.string s.data.toList) (.lit (.int .i64 0)) = .lit (.int .i64 c0) → c0 = p) := fun c0 h => by
        have h2 := HD.out.2
        rw [hg, h] at h2
        injection h2 with h2
        injection h2 with _ h2
      subst hk
      go_enter Tryz.func94, Tryz.ntmps94
      go_wp2_with (first
        | (at_lookup; refine wpList_lookup_own_ok_int _ rfl _ _ 62 rfl 9 3 .i64 strLaw Tryz.underlying62 Tryz.underlying3 (zeroInt _) _ _ _ rfl hown _ _ rfl hkey ?_; intro c0 hat hwc; rw [hhas]; have hcp := HAT.out c0 hat; clear hat hwc; subst hcp))
      go_ret
      exact ⟨rfl, HR.out.congr (fun j _ => by simp), (grown_box _ _ _).trans (grown_put _ _ _ _)⟩
    · have hkB : decide (k = 2) = false := decide_eq_false hk
      have hkE : (k == 2) = false := by simpa using hk
      have HR : Hid (MSt w0 (w.alloc (.cells #[.int .i64 k, .int .i64 n0, .string s, .slice a m c] 42)) ab sb mb mm ub n g (fun j => u j || (decide (k = 2) && decide (some p = some j)))) := HST.out.congr (fun j _ => by simp [hk])
      go_enter Tryz.func94, Tryz.ntmps94
      go_wp2_with (first
        | (at_lookup; refine wpList_lookup_own_ok_int _ rfl _ _ 62 rfl 9 3 .i64 strLaw Tryz.underlying62 Tryz.underlying3 (zeroInt _) _ _ _ rfl hown _ _ rfl hkey ?_; intro c0 hat hwc; rw [hhas]))
      go_ret
      exact ⟨rfl, HR.out, grown_box _ _ _⟩
end Go.Proofs.YtjpjnmhjfpmglaaGreatDoor
namespace Go.Proofs.YtjpjnmhjfpmglaaGreatDoor
open Go.RowKit Go.Maps Go.WideMaps

theorem grown_lt {w0 w w' : World} {ab sb mb mm ub n : Nat} {g : ByteArray → Option Nat} {u v : Nat → Bool} (h : MSt w0 w ab sb mb mm ub n g u) (hg : w.grownBy w' (some ub)) (hr : URow w' ub n v) : MSt w0 w' ab sb mb mm ub n g v := by
  obtain ⟨h1, h2, h3, h4, h5, h6, h7, h8, h9, h10⟩ := h
  refine ⟨grown_below h1 hg h9, ?_, ?_, h4.kept hg h8, hr, h6, h7, h8, h9, h10⟩
  · rw [World.cell?_of_block (w := w) (hg.block ab (blt_of_cell h2) (by intro e; injection e with e; exact h6 e))]; exact h2
  · rw [World.cell?_of_block (w := w) (hg.block sb (blt_of_cell h3) (by intro e; injection e with e; exact h7 e))]; exact h3
theorem xbox_grown {w w' : World} {b ub : Nat} {k n : Int} {s : ByteArray} {a : Option Addr} {m c : Nat} (h : XBox w b k n s a m c) (hg : w.grownBy w' (some ub)) (hne : b ≠ ub) : XBox w' b k n s a m c := by
  obtain ⟨h0, h1, h2, h3, h4⟩ := h
  have e : ∀ o, w'.cell? ⟨b, o, none⟩ = w.cell? ⟨b, o, none⟩ := fun o => World.cell?_of_block (w := w) (hg.block b h0 (by intro e; injection e with e; exact hne e))
  exact ⟨Nat.lt_of_lt_of_le h0 hg.size, by rw [e]; exact h1, by rw [e]; exact h2, by rw [e]; exact h3, by rw [e]; exact h4⟩
set_option maxRecDepth 100000 in
set_option maxHeartbeats 2000000 in
theorem every_mark (w0 : World) (ab sb mb mm ub n : Nat) (g : ByteArray → Option Nat) (hn : n ≤ 40) (x : Ex) : ∀ (a : Option Addr) (c : Nat) (u : Nat → Bool) (w : World), KidsAt w0 x a → MSt w0 w ab sb mb mm ub n g u →
    Calls Tryz.prog 84 #[.agg #[.int .i64 x.k, .int .i64 x.n, .string x.s, .slice a x.m c], .func (.func 94) #[] #[.pointer (some ⟨ab, 0, none⟩), .pointer (some ⟨sb, 0, none⟩)]] w fun e w' => MarkRet w0 w ab sb mb mm ub n g (fun j => u j || x.hit g j) e w' := by
  induction x with
  | no => intro a c u w h; exact h.elim
  | mk k nn s m kid ih =>
    intro a c u w hk hst
    show Calls Tryz.prog 84 #[.agg #[.int .i64 k, .int .i64 nn, .string s, .slice a m c], .func (.func 94) #[] #[.pointer (some ⟨ab, 0, none⟩), .pointer (some ⟨sb, 0, none⟩)]] w _
    have hm : m ≤ 9223372036854775807 := by have := hk.many; unfold maxLen at this; exact this
    have HSZ : Hid (s.size ≤ maxLen) := Lib.hid hk.name
    have HK := Lib.hid hk
    have HST := Lib.hid hst
    have HB0 := Lib.hid (kbelow_box w (.cells #[.int .i64 k, .int .i64 nn, .string s, .slice a m c] 42))
    have HX0 := Lib.hid (XBox.made w k nn s a m c 42)
    have hne : w.heap.size ≠ ub := by have := hst.2.2.2.2.1.1; omega
    have HM := Lib.hid (fun j => hit_mk g j k nn s m kid)
    have HIH := Lib.hid ih
    clear hk ih hst
    go_enter Tryz.func84, Tryz.ntmps84
    go_wp2_with fail
    refine (mark1_any k nn s a m c w0 ab sb mb mm ub n g u _ HSZ.out hn (HST.out.below HB0.out)).mono ?_
    rintro e w1 ⟨rfl, hst1, hg1⟩
    have HST1 := Lib.hid hst1
    have HG1 := Lib.hid ((grown_of_below ub HB0.out).trans hg1)
    have HX1 := Lib.hid (xbox_grown HX0.out hg1 hne)
    clear hst1 hg1 HX0 HB0
    obtain ⟨_, y0, y1, y2, y3⟩ := HX1.out
    go_wp2_with fail
    go_loopw [14] (fun i wr => ∃ j : Nat, j ≤ m ∧ i = .int .i64 j ∧ MSt w0 wr ab sb mb mm ub n g (fun q => u q || ((decide (k = 2) && decide (g s = some q)) || anyN (fun i => (kid i).hit g q) j)) ∧ w.grownBy wr (some ub)) (fun i _ => m - (intOf i).toNat)
    case atStart => exact ⟨0, Nat.zero_le _, rfl, HST1.out.congr (fun q _ => by simp [anyN]), HG1.out⟩
    case round =>
      obtain ⟨j, hj, rfl, hf, hg⟩ := hrel
      have HF := Lib.hid hf
      have HG := Lib.hid hg
      clear hf hg
      by_cases hlt : j < m
      · have hlt' : (j : Int) < (m : Int) := by omega
        obtain ⟨b, off, rfl, hcell⟩ := HK.out.open (show 0 < m by omega)
        obtain ⟨aj, cj, ⟨x0, x1, x2, x3⟩, _⟩ := hcell wr HF.out.1 j hlt
        obtain ⟨aj', cj', ⟨_, _, _, x3''⟩, hkj⟩ := hcell w0 (Below.refl _ _) j hlt
        have x0' : wr.cell? ⟨b, off + j * 4, none⟩ = some (.int .i64 (kid j).k) := x0
        have x1' : wr.cell? ⟨b, off + j * 4 + 1, none⟩ = some (.int .i64 (kid j).n) := x1
        have x2' : wr.cell? ⟨b, off + j * 4 + 2, none⟩ = some (.string (kid j).s) := x2
        have x3' : wr.cell? ⟨b, off + j * 4 + 3, none⟩ = some (.slice aj (kid j).m cj) := x3
        have hbl : b < w0.heap.size := blt_of_cell x3''
        have heq : (some (Value.slice aj (kid j).m cj)) = some (Value.slice aj' (kid j).m cj') := by rw [← x3', ← show w0.cell? ⟨b, off + j * 4 + 3, none⟩ = some (.slice aj' (kid j).m cj') from x3'']; exact HF.out.1.cell (p := ⟨b, off + j * 4 + 3, none⟩) hbl
        injection heq with heq
        injection heq with heq _ hcq
        subst heq hcq
        have HKJ : Hid (KidsAt w0 (kid j) aj) := Lib.hid hkj
        clear hcell hkj x0 x1 x2 x3 x3''
        have HBJ := Lib.hid (kbelow_box wr (.cells #[.int .i64 (kid j).k, .int .i64 (kid j).n, .string (kid j).s, .slice aj (kid j).m cj] 42))
        go_wp2_with fail
        refine (HIH.out j aj cj _ _ HKJ.out (HF.out.below HBJ.out)).mono ?_
        rintro e w9 ⟨rfl, hst9, hg9⟩
        have HST9 := Lib.hid hst9
        have HG9 := Lib.hid ((HG.out.trans (grown_of_below ub HBJ.out)).trans hg9)
        clear hst9 hg9 x0' x1' x2' x3'
        go_wp2_with fail
        go_roundw
        case rel => exact ⟨j + 1, by omega, by go_num, HST9.out.congr (fun q _ => by simp [anyN, Bool.or_assoc]), HG9.out⟩
        case measure => simp [intOf]; omega
      · have hjm : j = m := by omega
        subst hjm
        have HR : Hid (MSt w0 wr ab sb mb mm ub n g (fun q => u q || (Ex.mk k nn s j kid).hit g q)) := HF.out.congr (fun q _ => by rw [HM.out q])
        go_wp2_with fail
        go_ret
        exact ⟨rfl, HR.out, HG.out⟩
theorem lnth_take {l : List Ln} {p j : Nat} (h : j < p) : lnth (l.take p) j = lnth l j := by
  simp [lnth, List.getD_eq_getElem?_getD, h]
theorem lastN_congr {f h : Nat → ByteArray} : ∀ {n : Nat}, (∀ j, j < n → f j = h j) → lastN f n = lastN h n
  | 0, _ => rfl
  | n + 1, e => by
    funext s
    simp only [lastN]
    rw [e n (by omega), lastN_congr (n := n) (fun j hj => e j (by omega))]
theorem CameL.take {w : World} {a : Option Addr} {l : List Ln} (h : CameL w a l) {p : Nat} (hp : p ≤ l.length) : CameL w a (l.take p) := by
  rcases h with h | ⟨b, off, rfl, hB, h⟩
  · exact .inl (by simp [h])
  · refine .inr ⟨b, off, rfl, hB, fun j hj => ?_⟩
    have hj' : j < p := by simp at hj; omega
    rw [lnth_take hj']
    exact h j (by omega)
theorem lastN_lt {f : Nat → ByteArray} : ∀ {n : Nat} {s : ByteArray} {p : Nat}, lastN f n s = some p → p < n
  | 0, _, _, h => by cases h
  | n + 1, s, p, h => by
    simp only [lastN] at h
    split at h
    · injection h with h; omega
    · have := lastN_lt h; omega
end Go.Proofs.YtjpjnmhjfpmglaaGreatDoor
namespace Go.Proofs.YtjpjnmhjfpmglaaGreatDoor
open Go.RowKit Go.Maps Go.WideMaps

def UsedRet (w : World) (ub nu : Nat) (u : Nat → Bool) (e : Ending) (w' : World) : Prop := (∃ v, e = .returned v) ∧ URow w' ub nu u ∧ w.grownBy w' (some ub)
/-- Which line a line asks for by name. -/
def directB (l : List Ln) (p j : Nat) : Bool := (lnth l p).ex.hit (lastN (fun j => (lnth l j).name) p) j
set_option maxRecDepth 100000 in
set_option maxHeartbeats 2000000 in
theorem markUsed_any (a : Option Addr) (n cap : Nat) (l : List Ln) (p ub nu : Nat) (u : Nat → Bool) (w0 w : World) (hl : CameL w0 a l) (hn : l.length = n) (hm : n ≤ 40) (hcap : n ≤ cap) (hcm : cap ≤ maxLen) (hp : p < n) (hnu : p ≤ nu) (hnu' : nu ≤ 40) (hb : Below w0.heap.size w0 w) (hub : w0.heap.size ≤ ub) (hr : URow w ub nu u) :
    Calls Tryz.prog 68 #[.slice a n cap, .int .i64 p, .slice (some ⟨ub, 0, none⟩) nu nu] w fun e w' => UsedRet w ub nu (fun j => u j || directB l p j) e w' := by
  have hp' : (p : Int) < (n : Int) := by omega
  have hpc : (p : Int) ≤ (cap : Int) := by omega
  have hpc' : p ≤ cap := by omega
  have hcm' : cap ≤ 9223372036854775807 := by unfold maxLen at hcm; omega
  have HL := Lib.hid hl
  have HN := Lib.hid hn
  have HB := Lib.hid hb
  have HR := Lib.hid hr
  have HLF : Hid (∀ j, j < n → (lnth l j).name.size ≤ maxLen) := fun j hj => by
    obtain ⟨_, _, _, h⟩ := hl.open hn (by omega)
    obtain ⟨_, _, _, h, _⟩ := h w0 (Below.refl _ _) j hj
    exact h
  obtain ⟨b, off, rfl, hcell⟩ := hl.open hn (by omega)
  have HCELL := Lib.hid hcell
  clear hl hn hb hr hcell hcm
  have HB0 := Lib.hid (kbelow_box w (.cells #[.slice (some ⟨ub, 0, none⟩) nu nu] 119))
  go_enter Tryz.func68, Tryz.ntmps68
  go_wp2_with fail
  refine (placesN (some ⟨b, off, none⟩) p cap (l.take p) _ ((HL.out.take (by have := HN.out; omega)).below (HB.out.trans (HB0.out.mono HB.out.size))) (fun j hj => by rw [lnth_take hj]; exact HLF.out j (by omega)) (by have := HN.out; simp; omega) (by omega)).mono ?_
  rintro e w1 ⟨rfl, hm1, hb1⟩
  have HM1 := Lib.hid hm1
  have HB1 := Lib.hid (HB0.out.trans (hb1.mono HB0.out.size))
  have u0 := (hb1.cell (p := ⟨w.heap.size, 0, none⟩) (by simp)).trans (show (w.alloc (.cells #[.slice (some ⟨ub, 0, none⟩) nu nu] 119)).cell? ⟨w.heap.size, 0, none⟩ = some (.slice (some ⟨ub, 0, none⟩) nu nu) by simp)
  have HBB := Lib.hid (HB.out.trans (HB1.out.mono HB.out.size))
  obtain ⟨aj, cj, hc0, _, hk0⟩ := HCELL.out w0 (Below.refl _ _) p hp
  have HK0 := Lib.hid hk0
  obtain ⟨x0, x1, x2, x3, x4, x5⟩ := hc0.below HBB.out (blt_of_cell hc0.1)
  clear hk0 hc0
  clear hm1 hb1
  have HBX := Lib.hid (kbelow_box w1 (.cells #[.map (some (w.heap.size + 1))] 62))
  have hbl : b < w1.heap.size := blt_of_cell x0
  have e2 := (HBX.out.cell (p := ⟨b, off + p * 6 + 2, none⟩) hbl).trans x2
  have e3 := (HBX.out.cell (p := ⟨b, off + p * 6 + 3, none⟩) hbl).trans x3
  have e4 := (HBX.out.cell (p := ⟨b, off + p * 6 + 4, none⟩) hbl).trans x4
  have e5 := (HBX.out.cell (p := ⟨b, off + p * 6 + 5, none⟩) hbl).trans x5
  have hub1 : ub < w.heap.size := HR.out.1
  have hnb : ub ≠ w.heap.size := by omega
  have HBW := Lib.hid (HB1.out.trans (HBX.out.mono HB1.out.size))
  have HST : Hid (MSt w0 (w1.alloc (.cells #[.map (some (w.heap.size + 1))] 62)) w1.heap.size w.heap.size (w.heap.size + 1) p ub nu (lastN (fun j => (lnth l j).name) p) u) := by
    refine ⟨HB.out.trans (HBW.out.mono HB.out.size), by simp, (HBX.out.cell (p := ⟨w.heap.size, 0, none⟩) (blt_of_cell u0)).trans u0, ?_, HR.out.below HBW.out, ?_, by omega, by omega, hub, fun s q hq => Nat.lt_of_lt_of_le (lastN_lt hq) hnu⟩
    · have := HM1.out.below HBX.out
      rw [lastN_congr (h := fun j => (lnth l j).name) (fun j hj => by rw [lnth_take hj])] at this
      simpa using this
    · have := HB1.out.size; omega
  clear HM1 u0 hnb hub1
  go_wp2_with fail
  refine (every_mark w0 w1.heap.size w.heap.size (w.heap.size + 1) p ub nu (lastN (fun j => (lnth l j).name) p) hnu' (lnth l p).ex aj cj u _ HK0.out HST.out).mono ?_
  rintro e w9 ⟨rfl, hst9, hg9⟩
  have HU := Lib.hid hst9.2.2.2.2.1
  have HG := Lib.hid ((grown_of_below ub HBW.out).trans hg9)
  clear hst9 hg9 x0 x1 x2 x3 x4 x5 e2 e3 e4 e5
  go_wp2_with fail
  refine bodyPost_ret (v := .tuple #[]) (by simp [results, Tryz.results68, go_sem]) rfl ?_
  exact ⟨⟨_, rfl⟩, HU.out, HG.out⟩
/-- Which lines are used when t lines have been looked at, from the last one on down. -/
def usedN (l : List Ln) (last : Nat) : Nat → Nat → Bool
  | 0, _ => false
  | t + 1, j => if t = 0 ∨ usedN l last t (last - t) = true then usedN l last t j || directB l (last - t) j else usedN l last t j
end Go.Proofs.YtjpjnmhjfpmglaaGreatDoor
namespace Go.Proofs.YtjpjnmhjfpmglaaGreatDoor
open Go.RowKit Go.Maps Go.WideMaps

theorem info_b : (Tryz.prog.info? 4).map (fun i => (i.zero, i.size, i.bytes)) = some (some (.bool false), 1, 1) := by kernel_rfl
theorem URow.made (w : World) (n : Nat) : URow (w.alloc (.cells (madeCells #[.bool false] n) 4)) w.heap.size n (fun _ => false) := by
  refine ⟨by simp, fun j hj => ⟨?_, by simp⟩⟩
  simp
  rw [← Array.getElem?_toList, toList_madeCells_one, List.getElem?_replicate, if_pos hj]
theorem URow.kept {w w' : World} {ub n : Nat} {u : Nat → Bool} {row : Option Nat} (h : URow w ub n u) (hg : w.grownBy w' row) (hne : some ub ≠ row) : URow w' ub n u := by
  have e := hg.block ub h.1 hne
  exact ⟨Nat.lt_of_lt_of_le h.1 hg.size, fun j hj => ⟨by rw [World.cell?_of_block (w := w) e]; exact (h.2 j hj).1, by rw [World.frozen?_of_block (w := w) e]; exact (h.2 j hj).2⟩⟩
/-- The places below n that are so. -/
def placesOf (u : Nat → Bool) : Nat → List Int
  | 0 => []
  | j + 1 => if u j = true then placesOf u j ++ [(j : Int)] else placesOf u j
theorem placesOf_len (u : Nat → Bool) (n : Nat) : (placesOf u n).length ≤ n := by
  induction n with
  | zero => exact Nat.le_refl _
  | succ q ih => 
    simp only [placesOf]
    split
    · simp; omega
    · omega
theorem usedN_succ (l : List Ln) (last t j : Nat) : usedN l last (t + 1) j = if t = 0 ∨ usedN l last t (last - t) = true then usedN l last t j || directB l (last - t) j else usedN l last t j := rfl
def UsesIs (w : World) (l : List Ln) (last : Nat) (e : Ending) (w' : World) : Prop := ∃ v, e = .returned v ∧ Grow w' (w.heap.size + 1) v (placesOf (usedN l last (last + 1)) last) ∧ Below w.heap.size w w'
set_option maxRecDepth 100000 in
set_option maxHeartbeats 1000000 in
theorem hangsOn_any (a : Option Addr) (q cap : Nat) (l : List Ln) (w : World) (hl : CameL w a l) (hn : l.length = q + 1) (hm : q < 40) (hcap : q + 1 ≤ cap) (hcm : cap ≤ maxLen) :
    Calls Tryz.prog 33 #[.slice a ((q + 1 : Nat)) cap] w fun e w' => UsesIs w l q e w' := by
  have HL := Lib.hid hl
  have HN := Lib.hid hn
  have HCM := Lib.hid hcm
  have hmk := run_make_row' (P := Tryz.prog) 119 4 (.bool false) 1 Tryz.underlying119 info_b rfl .i64 .i64 q (by omega) (by omega)
  clear hl hn hcm
  have HU0 := Lib.hid (URow.made w q)
  have HB0 := Lib.hid (kbelow_box w (.cells (madeCells #[.bool false] q) 4))
  go_enter Tryz.func33, Tryz.ntmps33
  go_wp2_with fail
  go_loopw [5] (fun i wr => ∃ t : Nat, t ≤ q + 1 ∧ i = .int .i64 ((q : Int) - t) ∧ URow wr w.heap.size q (usedN l q t) ∧ Below w.heap.size w wr) (fun i _ => (intOf i + 1).toNat)
  case atStart => exact ⟨0, Nat.zero_le _, by go_num, HU0.out, HB0.out⟩
  case round =>
    clear HU0 HB0
    obtain ⟨t, ht, rfl, hu, hb⟩ := hrel
    have HU := Lib.hid hu
    have HB := Lib.hid hb
    clear hu hb
    by_cases hlt : t ≤ q
    · obtain ⟨p, hpq⟩ : ∃ p : Nat, p = q - t := ⟨_, rfl⟩
      rw [show (q : Int) - (t : Int) = (p : Int) by omega]
      have HS : Hid (∀ j, usedN l q (t + 1) j = if t = 0 ∨ usedN l q t p = true then usedN l q t j || directB l p j else usedN l q t j) := fun j => by rw [usedN_succ, ← hpq]
      have hple : p ≤ q := by omega
      have hmeas : Hid (p + t = q) := by unfold Hid; omega
      by_cases h0 : t = 0
      · have HT : Hid (t = 0 ∨ usedN l q t p = true) := .inl h0
        have hpe : q = p := by omega
        clear hpq
        subst hpe
        go_wp2_with fail
        refine (markUsed_any a (q + 1) cap l q w.heap.size q _ w _ HL.out HN.out (by omega) hcap HCM.out (by omega) (by omega) (by omega) HB.out (Nat.le_refl _) HU.out).mono ?_
        rintro e w2 ⟨⟨v, rfl⟩, hu2, hg2⟩
        have HB2 := Lib.hid (grown_below HB.out hg2 (Nat.le_refl _))
        have HU2 : Hid (URow w2 w.heap.size q (usedN l q (t + 1))) := hu2.congr (fun j _ => by rw [HS.out j, if_pos HT.out])
        clear hu2 hg2
        go_wp2_with fail
        go_roundw
        case rel => exact ⟨t + 1, by have := hmeas.out; omega, by have := hmeas.out; go_num, HU2.out, HB2.out⟩
        case measure => simp [intOf]
      · have HPL : Hid (p < q) := by unfold Hid; omega
        have hplt := HPL.out
        clear hpq
        have hneB : decide ((p : Int) = (q : Int)) = false := decide_eq_false (by omega)
        have hneE : ((p : Int) == (q : Int)) = false := by simp; omega
        have hneD : decide (p = q) = false := decide_eq_false (by omega)
        have hneF : (p == q) = false := by simp; omega
        have hlt' : (p : Int) < (q : Int) := by omega
        have hp0 : (0 : Int) ≤ (p : Int) := by omega
        obtain ⟨r0, _⟩ := HU.out.2 p (by omega)
        cases hv : usedN l q t p
        · rw [hv] at r0
          have HU2 : Hid (URow wr w.heap.size q (usedN l q (t + 1))) := HU.out.congr (fun j _ => by rw [HS.out j, if_neg (by simp [h0, hv])])
          clear hv
          go_wp2_with fail
          go_roundw
          case rel => exact ⟨t + 1, by omega, by have := hmeas.out; go_num, HU2.out, HB.out⟩
          case measure => simp [intOf]
        · rw [hv] at r0
          have HT : Hid (t = 0 ∨ usedN l q t p = true) := .inr hv
          clear hv
          go_wp2_with fail
          refine (markUsed_any a (q + 1) cap l p w.heap.size q _ w _ HL.out HN.out (by omega) hcap HCM.out (by omega) (by omega) (by omega) HB.out (Nat.le_refl _) HU.out).mono ?_
          rintro e w2 ⟨⟨v, rfl⟩, hu2, hg2⟩
          have HB2 := Lib.hid (grown_below HB.out hg2 (Nat.le_refl _))
          have HU2 : Hid (URow w2 w.heap.size q (usedN l q (t + 1))) := hu2.congr (fun j _ => by rw [HS.out j, if_pos HT.out])
          clear hu2 hg2
          go_wp2_with fail
          go_roundw
          case rel => exact ⟨t + 1, by have := hmeas.out; omega, by have := hmeas.out; go_num, HU2.out, HB2.out⟩
          case measure => simp [intOf]
    · have hte : t = q + 1 := by omega
      have HUF : Hid (URow wr w.heap.size q (usedN l q (q + 1))) := by rw [← hte]; exact HU.out
      have hneg : (q : Int) - (t : Int) < 0 := by omega
      have hnegB : decide (0 ≤ (q : Int) - (t : Int)) = false := decide_eq_false (by omega)
      have HB0 := HB
      clear HU HB hte ht hlt
      go_wp2_with fail
      generalize (q : Int) - (t : Int) = zt at *
      clear hneg hnegB
      generalize decide (t ≤ q) = bt at *
      obtain ⟨uu, huu⟩ : ∃ uu, uu = usedN l q (q + 1) := ⟨_, rfl⟩
      rw [← huu] at HUF
      have HUU := Lib.hid huu
      clear huu
      go_loopw [6, 34] (fun sv i wq => ∃ j : Nat, j ≤ q ∧ i = .int .i64 j ∧ Grow wq (w.heap.size + 1) sv (placesOf uu j) ∧ URow wq w.heap.size q uu ∧ Below w.heap.size w wq) (fun _ i _ => q - (intOf i).toNat)
      case atStart => exact ⟨0, Nat.zero_le _, rfl, Grow.nil _ _, HUF.out, HB0.out⟩
      case round =>
        clear HUF HB0
        generalize wr = wr0 at *
        obtain ⟨j, hj, rfl, hgr, hu, hb⟩ := hrel
        have HG := Lib.hid hgr
        have HU := Lib.hid hu
        have HB := Lib.hid hb
        clear hgr hu hb
        by_cases hlt : j < q
        · have hlt' : (j : Int) < (q : Int) := by omega
          obtain ⟨r0, _⟩ := HU.out.2 j hlt
          have hlen := placesOf_len uu j
          have HSZ := Lib.hid HU.out.1
          cases hv : uu j
          · rw [hv] at r0
            have HP : Hid (placesOf uu (j + 1) = placesOf uu j) := by unfold Hid; simp [placesOf, hv]
            clear hv
            go_wp2_with fail
            go_roundw
            case rel => exact ⟨j + 1, by omega, by go_num, by rw [HP.out]; exact HG.out, HU.out, HB.out⟩
            case measure => simp [intOf]; omega
          · rw [hv] at r0
            have HP : Hid (placesOf uu (j + 1) = placesOf uu j ++ [(j : Int)]) := by unfold Hid; simp [placesOf, hv]
            clear hv
            go_wp2_with (at_builtin; refine wpList_app _ rfl _ _ rfl (w.heap.size + 1) _ (placesOf uu j) rfl ?hgw ⟨_, 0, none⟩ 1 (j : Int) rfl ?hz ?hl ?hB ?_; rotate_right; intro v9 w9 hg9 hgr9 hd9 hs9; refine Hid.out ?_)
            case hgw => exact HG.out.alloc _
            case hz => simp
            case hl => omega
            case hB => have := HSZ.out; simp; omega
            have HB9 := Lib.hid ((HB.out.alloc HB.out.size _).grown hgr9 (by have := HB.out.size; simp; omega) (fun i hi => by have := (HG.out.lt i hi).1; omega))
            have HU9 := Lib.hid ((HU.out.below (kbelow_box _ _)).kept hgr9 (by intro e; have := (HG.out.lt _ e.symm).1; omega))
            have HG9 := Lib.hid hg9
            clear hg9 hgr9 hd9 hs9 r0
            refine Lib.hid ?_
            go_wp2_with fail
            go_roundw
            case rel => exact ⟨j + 1, by omega, by go_num, by rw [HP.out]; exact HG9.out, HU9.out, HB9.out⟩
            case measure => simp [intOf]; omega
        · have hjq : j = q := by omega
          subst hjq
          go_wp2_with fail
          go_ret
          exact ⟨_, rfl, by rw [← HUU.out]; exact HG.out, HB.out⟩
end Go.Proofs.YtjpjnmhjfpmglaaGreatDoor
namespace Go.Proofs.YtjpjnmhjfpmglaaGreatDoor
open Go.RowKit

def UsesRet (w : World) (l : List Ln) (line : Int) (e : Ending) (w' : World) : Prop := ∃ (v : Value) (er : Int), e = .returned (.tuple #[v, .int .i64 er]) ∧ ((linesE l ≠ 0 ∧ er = linesE l ∧ v = .slice none 0 0) ∨ (linesE l = 0 ∧ (line < 0 ∨ (l.length : Int) ≤ line) ∧ er = 3 ∧ v = .slice none 0 0) ∨ (linesE l = 0 ∧ er = 0 ∧ ∃ p : Nat, line = p ∧ p < l.length ∧ ∃ B, w.heap.size ≤ B ∧ Grow w' B v (placesOf (usedN (l.take (p + 1)) p (p + 1)) p))) ∧ Below w.heap.size w w'
set_option maxRecDepth 100000 in
set_option maxHeartbeats 1000000 in
theorem Uses_any (a : Option Addr) (n cap : Nat) (l : List Ln) (line : Int) (w : World) (hS : Shp w) (hl : CameL w a l) (hn : l.length = n) (hcap : n ≤ cap) (hcm : cap ≤ maxLen) :
    Calls Tryz.prog 15 #[.slice a n cap, .int .i64 line] w fun e w' => UsesRet w l line e w' := by
  have hm' : n ≤ 9223372036854775807 := by unfold maxLen at hcm; omega
  have hcm' : cap ≤ 9223372036854775807 := by unfold maxLen at hcm; omega
  have HCM := Lib.hid hcm
  have HL := Lib.hid hl
  have HN := Lib.hid hn
  have HS := Lib.hid hS
  clear hl hn hS
  go_enter Tryz.func15, Tryz.ntmps15
  go_wp2_with fail
  refine (check_lines a n cap l _ HS.out HL.out HN.out (by omega)).mono ?_
  rintro e w1 ⟨rfl, hb1⟩
  have HB1 := Lib.hid hb1
  clear hb1
  by_cases z1 : linesE l = 0
  · have HZ1 := Lib.hid z1
    rw [z1]
    clear z1
    by_cases c1 : line < 0
    · have HR : Hid ((line < 0 ∨ (l.length : Int) ≤ line)) := .inl c1
      go_wp2_with fail
      go_ret2
      exact ⟨_, _, rfl, .inr (.inl ⟨HZ1.out, HR.out, rfl, rfl⟩), HB1.out⟩
    · have c1B : decide (line < 0) = false := decide_eq_false c1
      obtain ⟨p, rfl⟩ : ∃ p : Nat, line = (p : Int) := ⟨line.toNat, by omega⟩
      by_cases c2 : n ≤ p
      · have c2' : (n : Int) ≤ (p : Int) := by omega
        have HR : Hid (((p : Int) < 0 ∨ (l.length : Int) ≤ (p : Int))) := .inr (by have := HN.out; omega)
        go_wp2_with fail
        go_ret2
        exact ⟨_, _, rfl, .inr (.inl ⟨HZ1.out, HR.out, rfl, rfl⟩), HB1.out⟩
      · have c2B : decide ((n : Int) ≤ (p : Int)) = false := decide_eq_false (by omega)
        have c2N : decide (n ≤ p) = false := decide_eq_false c2
        have h40 : n ≤ 40 := by have := linesE_40 HZ1.out; have := HN.out; omega
        have hs1 : ((p : Int) + 1) ≤ (cap : Int) := by omega
        have hs2 : ((p : Int) + 1).toNat = p + 1 := by omega
        have hs3 : (0 : Int) ≤ (p : Int) + 1 := by omega
        have hs4 : p + 1 ≤ cap := by omega
        go_wp2_with fail
        refine (hangsOn_any a p cap (l.take (p + 1)) _ ((HL.out.take (by have := HN.out; omega)).below HB1.out) (by have := HN.out; simp; omega) (by omega) (by omega) HCM.out).mono ?_
        rintro e w2 ⟨v, rfl, hg, hb2⟩
        have HG := Lib.hid hg
        have HB2 := Lib.hid (HB1.out.trans (hb2.mono HB1.out.size))
        clear hg hb2
        go_wp2_with fail
        go_ret2
        exact ⟨_, _, rfl, .inr (.inr ⟨HZ1.out, rfl, p, rfl, by have := HN.out; omega, w1.heap.size + 1, by have := HB1.out.size; omega, HG.out⟩), HB2.out⟩
  · have z1B : decide (linesE l = 0) = false := decide_eq_false z1
    have z1N : (linesE l != 0) = true := by simpa using z1
    have HZ1 := Lib.hid z1
    generalize hz : linesE l = z at *
    have HZZ := Lib.hid hz
    clear hz
    go_wp2_with fail
    go_ret2
    exact ⟨_, _, rfl, .inl ⟨by rw [HZZ.out]; exact HZ1.out, by rw [HZZ.out], rfl⟩, HB1.out⟩
def exB : Ex := .mk 1 0 ByteArray.empty 0 (fun _ => .no)
def exA : Ex := .mk 2 0 ⟨#[98]⟩ 0 (fun _ => .no)
def lnB : Ln := ⟨4, ⟨#[98]⟩, exB⟩
def lnA : Ln := ⟨4, ⟨#[97]⟩, exA⟩
def knO : Kn := ⟨[], [], []⟩
theorem begun_lines : linesE [lnA] = 0 ∧ linesE [lnB, lnA] = 0 ∧ knE knO = 0 := by decide +kernel
theorem begun_ok : lineOk [lnA] knO 0 = 5 := by decide +kernel
theorem begun_uses : placesOf (usedN ([lnB, lnA].take (1 + 1)) 1 (1 + 1)) 1 = [0] := by decide +kernel
theorem begun_bind {i e : Int} (h : BindIs [lnA] knO i e) : i = 0 ∧ e = 5 :=
  h.unique (.inr (.inr ⟨begun_lines.1, begun_lines.2.2, .inr ⟨0, by decide, rfl, begun_ok.symm, by omega, fun q hq => by omega⟩⟩))
theorem begun_known (w : World) : CameK w none none none knO :=
  ⟨.inl rfl, .inl rfl, .inl rfl, fun j hj => by simp [knO] at hj, fun j hj => by simp [knO] at hj, by simp [knO], by simp [knO], by simp [knO]⟩
end Go.Proofs.YtjpjnmhjfpmglaaGreatDoor
set_option linter.unusedSimpArgs false
namespace Go.Proofs.YtjpjnmhjfpmglaaGreatDoor
open Go.RowKit Go.Maps Go.WideMaps

theorem anyN_ex {f : Nat → Bool} : ∀ {n : Nat}, anyN f n = true → ∃ j, j < n ∧ f j = true
  | 0, h => by cases h
  | n + 1, h => by
    rw [anyN, Bool.or_eq_true] at h
    rcases h with h | h
    · obtain ⟨j, hj, hf⟩ := anyN_ex h
      exact ⟨j, by omega, hf⟩
    · exact ⟨n, by omega, h⟩
theorem anyN_of {f : Nat → Bool} {j : Nat} (hf : f j = true) : ∀ {n : Nat}, j < n → anyN f n = true
  | 0, h => by omega
  | n + 1, h => by
    rw [anyN, Bool.or_eq_true]
    by_cases e : j = n
    · subst e; exact .inr hf
    · exact .inl (anyN_of hf (by omega))
theorem allN_of {f : Nat → Bool} : ∀ {n : Nat}, (∀ j, j < n → f j = true) → allN f n = true
  | 0, _ => rfl
  | n + 1, h => by rw [allN_yes (allN_of fun j hj => h j (by omega))]; exact h n (by omega)
theorem hit_some {g : ByteArray → Option Nat} {j : Nat} : ∀ {x : Ex}, x.hit g j = true → ∃ s, g s = some j := by
  intro x
  induction x with
  | no => intro h; rw [Ex.hit] at h; cases h
  | mk k n s m kid ih =>
    intro h
    rw [hit_mk, Bool.or_eq_true] at h
    rcases h with h | h
    · rw [Bool.and_eq_true] at h
      exact ⟨s, of_decide_eq_true h.2⟩
    · obtain ⟨i, _, hi⟩ := anyN_ex h
      exact ih i hi
theorem direct_lt {l : List Ln} {p j : Nat} (h : directB l p j = true) : j < p := by
  obtain ⟨s, hs⟩ := hit_some h
  exact (last_is hs).1
theorem used_mono {l : List Ln} {last j : Nat} : ∀ {t t' : Nat}, t ≤ t' → usedN l last t j = true → usedN l last t' j = true := by
  intro t t' h
  induction t' with
  | zero =>
    intro hu
    obtain rfl : t = 0 := by omega
    exact hu
  | succ q ih =>
    intro hu
    by_cases e : t = q + 1
    · subst e; exact hu
    · have := ih (by omega) hu
      rw [usedN_succ]
      split
      · rw [this]; rfl
      · exact this
theorem used_early {l : List Ln} {last p : Nat} : ∀ {t : Nat}, last - p ≤ t → usedN l last (t + 1) p = true → usedN l last t p = true := by
  intro t ht h
  rw [usedN_succ] at h
  split at h
  · rw [Bool.or_eq_true] at h
    rcases h with h | h
    · exact h
    · have := direct_lt h
      omega
  · exact h
theorem used_at {l : List Ln} {last p : Nat} : ∀ {t : Nat}, last - p ≤ t → usedN l last t p = true → usedN l last (last - p) p = true := by
  intro t
  induction t with
  | zero =>
    intro ht h
    have : last - p = 0 := by omega
    rw [this]; exact h
  | succ t ih =>
    intro ht h
    by_cases e : last - p = t + 1
    · rw [e]; exact h
    · exact ih (by omega) (used_early (by omega) h)
/-- What is used by what is used is used. -/
theorem used_closed {l : List Ln} {last p j : Nat} (hp : p ≤ last) (h : p = last ∨ usedN l last (last + 1) p = true) (hd : directB l p j = true) : usedN l last (last + 1) j = true := by
  have h1 : usedN l last (last - p + 1) j = true := by
    rw [usedN_succ, show last - (last - p) = p by omega]
    rw [if_pos]
    · rw [hd, Bool.or_true]
    · rcases h with h | h
      · exact .inl (by omega)
      · exact .inr (used_at (by omega) h)
  exact used_mono (by omega) h1
theorem places_mem (u : Nat → Bool) (j : Nat) : ∀ (n : Nat), j < n → u j = true → (j : Int) ∈ placesOf u n
  | 0, h, _ => by omega
  | n + 1, h, hu => by
    rw [placesOf]
    by_cases e : j = n
    · subst e
      simp [hu]
    · have := places_mem u j n (by omega) hu
      split
      · exact List.mem_append_left _ this
      · exact this
/-- All that the names of an expression mean has it. -/
theorem hit_all {g : ByteArray → Option Nat} {P : Nat → Bool} : ∀ {x : Ex}, (∀ j, x.hit g j = true → P j = true) → x.all (fun k s => if k = 2 then (match g s with | some j => P j | none => true) else true) = true := by
  intro x
  induction x with
  | no => intro _; rw [Ex.all]
  | mk k n s m kid ih =>
    intro h
    rw [all_mk, Bool.and_eq_true]
    refine ⟨?_, allN_of fun i hi => ih i fun j hj => h j ?_⟩
    · split
      · rename_i k2
        cases hg : g s with
        | none => rfl
        | some j => exact h j (by rw [hit_mk, k2, hg]; simp)
      · rfl
    · rw [hit_mk, anyN_of hj hi, Bool.or_true]
theorem all_and {P Q : Int → ByteArray → Bool} : ∀ {x : Ex}, x.all P = true → x.all Q = true → x.all (fun k s => P k s && Q k s) = true := by
  intro x
  induction x with
  | no => intro _ _; rw [Ex.all]
  | mk k n s m kid ih =>
    intro h1 h2
    rw [all_mk, Bool.and_eq_true] at h1 h2 ⊢
    exact ⟨by simp only [h1.1, h2.1, Bool.and_self], allN_of fun i hi => ih i (allN_each h1.2 i hi) (allN_each h2.2 i hi)⟩
theorem val_same2 {l m : List Ln} {kn : Kn} {vs us : List Int} {Q : Int → ByteArray → Bool} (hn : ∀ s, Q 2 s = true → namV l kn vs s = namV m kn us s) : ∀ (x : Ex), x.err = 0 → x.all Q = true → x.val l kn vs = x.val m kn us := by
  intro x he ha
  refine val_same (gv := fun s => if Q 2 s = true then some 0 else none) (gl := fun _ => some 0) (gt := fun _ => some 0) (fun s hs => hn s ?_) x he ?_
  · by_cases e : Q 2 s = true
    · exact e
    · rw [if_neg e] at hs; cases hs
  · clear he hn
    induction x with
    | no => rw [Ex.all]
    | mk k n s c kid ih =>
      rw [all_mk, Bool.and_eq_true] at ha ⊢
      refine ⟨?_, allN_of fun i hi => ih i (allN_each ha.2 i hi)⟩
      unfold knowB
      split
      · rename_i k2
        rw [k2] at ha
        dsimp only
        rw [if_pos ha.1]; rfl
      · split
        · rfl
        · split <;> rfl
theorem linesV_at {l : List Ln} {kn : Kn} {n : Nat} {vs : List Int} (h : linesV l kn n = (vs, true)) {p : Nat} (hp : p < n) : (lnth l p).ex.val l kn (vs.take p) = some (vs.getD p 0) := by
  have h1 := linesV_pre h p (by omega)
  have h2 := linesV_pre h (p + 1) (by omega)
  have hl := linesV_len _ _ h
  rw [linesV, h1] at h2
  dsimp only at h2
  cases hv : (lnth l p).ex.val l kn (vs.take p) with
  | none => rw [hv] at h2; cases (Prod.mk.inj h2).2
  | some v =>
    rw [hv] at h2
    have h3 := (Prod.mk.inj h2).1
    have h4 : (vs.take (p + 1)).getD p 0 = v := by
      rw [← h3, List.getD_eq_getElem?_getD, List.getElem?_append_right (by rw [List.length_take]; omega)]
      simp [List.length_take, show min p vs.length = p by omega]
    rw [← h4, List.getD_eq_getElem?_getD, List.getD_eq_getElem?_getD, List.getElem?_take_of_lt (by omega)]
theorem line_all {l : List Ln} {kn : Kn} {p : Nat} (h : lineOk l kn p = 0) : (lnth l p).ex.all (knowB (valsK l kn p) (linesG l) (tabsG kn)) = true := by
  have h1 := not_six (.inl h)
  unfold lineOk at h
  rw [h1] at h
  simp only [Option.isSome_none, Bool.false_eq_true, if_false] at h
  split at h
  · assumption
  · cases h
/-- With a line changed that another one does not use that comes to the same. -/
theorem hang_same {l m : List Ln} {kn : Kn} {vs us : List Int} {line other : Nat} (hE : linesE l = 0) (hok : ∀ q, q < l.length → lineOk l kn q = 0) (hv : linesV l kn l.length = (vs, true)) (hl : line < l.length) (ho : usedN l line (line + 1) other = false) (hol : other < line)
    (hm : m.length = line + 1) (hmo : ∀ j, j < line + 1 → j ≠ other → lnth m j = lnth l j) (hmn : ∀ j, j < line + 1 → (lnth m j).name = (lnth l j).name) (hokm : ∀ q, q < m.length → lineOk m kn q = 0) (hvm : linesV m kn m.length = (us, true)) : us.getD line 0 = vs.getD line 0 := by
  have vsame : ∀ p, p ≤ line + 1 → ∀ s, lastN (fun j => (lnth m j).name) p s = lastN (fun j => (lnth l j).name) p s := fun p hp s => last_congr fun j hj => hmn j (by omega)
  have key : ∀ n p, p < n → p ≤ line → (p = line ∨ usedN l line (line + 1) p = true) → us.getD p 0 = vs.getD p 0 := by
    intro n
    induction n with
    | zero => intro p hp; omega
    | succ n ih =>
      intro p hp hpl hu
      have hpo : p ≠ other := fun e => by
        subst e
        rcases hu with hu | hu
        · omega
        · rw [ho] at hu; cases hu
      have hx := linesV_at hv (p := p) (by omega)
      have hy := linesV_at hvm (p := p) (by omega)
      rw [hmo p (by omega) hpo] at hy
      have hdir : ∀ j, (lnth l p).ex.hit (lastN (fun j => (lnth l j).name) p) j = true → decide (us.getD j 0 = vs.getD j 0) = true := fun j hj => by
        have hd : directB l p j = true := hj
        have hjp := direct_lt hd
        exact decide_eq_true (ih j (by omega) (by omega) (.inr (used_closed hpl hu hd)))
      have hall := all_and (line_all (hok p (by omega))) (hit_all hdir)
      have heq : (lnth l p).ex.val l kn (vs.take p) = (lnth l p).ex.val m kn (us.take p) := by
        refine val_same2 (fun s hs => ?_) _ (linesE_line hE (by omega)).1 hall
        rw [Bool.and_eq_true] at hs
        have hk : (valsK l kn p s).isSome = true := by
          have := hs.1
          unfold knowB at this
          rwa [if_pos rfl] at this
        have hk' : (valsK m kn p s).isSome = true := by
          unfold valsK at hk ⊢
          rw [vsame p (by omega)]
          exact hk
        have q1 := lns_known (l := l) (fun q hq => not_six (.inl (hok q hq))) (show p ≤ l.length by omega) hk
        have q2 := lns_known (l := m) (fun q hq => not_six (.inl (hokm q hq))) (show p ≤ m.length by omega) hk'
        have hq := hs.2
        rw [if_pos rfl] at hq
        unfold namV
        rw [q1, q2, vsame p (by omega)]
        cases hg : lastN (fun j => (lnth l j).name) p s with
        | none => rfl
        | some j =>
          rw [hg] at hq
          have hj := (last_is hg).1
          have he := of_decide_eq_true hq
          dsimp only
          rw [List.getD_eq_getElem?_getD, List.getD_eq_getElem?_getD, List.getElem?_take_of_lt hj, List.getElem?_take_of_lt hj, ← List.getD_eq_getElem?_getD, ← List.getD_eq_getElem?_getD]
          exact he.symm
      rw [heq] at hx
      rw [hx] at hy
      exact (Option.some.inj hy).symm
  exact key (line + 1) line (by omega) (Nat.le_refl _) (.inl rfl)
end Go.Proofs.YtjpjnmhjfpmglaaGreatDoor
set_option linter.unusedSimpArgs false
namespace Go.Proofs.YtjpjnmhjfpmglaaGreatDoor
open Go.RowKit Go.Maps Go.WideMaps

theorem direct_same {l m : List Ln} {last : Nat} (h : ∀ j, j ≤ last → lnth l j = lnth m j) {p : Nat} (hp : p ≤ last) (j : Nat) : directB l p j = directB m p j := by
  unfold directB
  rw [h p hp, show lastN (fun j => (lnth l j).name) p = lastN (fun j => (lnth m j).name) p from funext fun s => last_congr fun i hi => by rw [h i (by omega)]]
theorem used_same {l m : List Ln} {last : Nat} (h : ∀ j, j ≤ last → lnth l j = lnth m j) : ∀ (t j : Nat), usedN l last t j = usedN m last t j
  | 0, _ => rfl
  | t + 1, j => by rw [usedN_succ, usedN_succ, used_same h t, used_same h t, direct_same h (by omega)]
/-- Lines that came in, as a list of their cells. -/
theorem CameL.list {w : World} {b off : Nat} {l : List Ln} (h : ∀ j, j < l.length → LnAt w b (off + j * 6) (lnth l j)) {c : Nat} (hc : c ≤ l.length) : ∃ L : List LnC, L.length = c ∧ (∀ j, j < c → (lcth L j).l = lnth l j ∧ LnIs w b (off + j * 6) (lcth L j).l (lcth L j).a (lcth L j).c ∧ KidsAt w (lcth L j).l.ex (lcth L j).a ∧ (lcth L j).l.name.size ≤ maxLen) := by
  induction c with
  | zero => exact ⟨[], rfl, fun j hj => absurd hj (by omega)⟩
  | succ c ih =>
    obtain ⟨L, hl, hL⟩ := ih (by omega)
    obtain ⟨a, k, h1, h2, h3⟩ := h c (by omega)
    refine ⟨L ++ [⟨lnth l c, a, k⟩], by simp [hl], fun j hj => ?_⟩
    by_cases e : j < c
    · rw [lcth_lt (by omega)]; exact hL j e
    · have : j = L.length := by omega
      subst this
      rw [lcth_at, hl]
      exact ⟨rfl, h1, h3, h2⟩
theorem lcells {w : World} {b off : Nat} {L : List LnC} (h : ∀ j, j < L.length → LnIs w b (off + j * 6) (lcth L j).l (lcth L j).a (lcth L j).c) : ∀ j u, (cellsN L)[j]? = some u → w.cell? ((⟨b, off, none⟩ : Addr).add j) = some u := by
  intro j u hu
  rw [Addr.add_lit]
  have hj : j < L.length * 6 := by
    rw [← cellsN_length]
    by_cases h' : j < (cellsN L).length
    · exact h'
    · rw [List.getElem?_eq_none (by omega)] at hu; cases hu
  have hk : j / 6 < L.length := by omega
  obtain ⟨h0, h1, h2, h3, h4, h5⟩ := h (j / 6) hk
  have hje : j / 6 * 6 + j % 6 = j := by omega
  have hg := cellsN_get L (j / 6) (j % 6) hk (by omega)
  rw [hje, hu] at hg
  have hc : j % 6 = 0 ∨ j % 6 = 1 ∨ j % 6 = 2 ∨ j % 6 = 3 ∨ j % 6 = 4 ∨ j % 6 = 5 := by omega
  rcases hc with hc | hc | hc | hc | hc | hc <;> rw [hc] at hg hje <;> simp only [lnL, List.getElem?_cons_zero, List.getElem?_cons_succ, Option.some.injEq] at hg <;> subst hg
  · rw [show off + j = off + j / 6 * 6 from by omega]; exact h0
  · rw [show off + j = off + j / 6 * 6 + 1 from by omega]; exact h1
  · rw [show off + j = off + j / 6 * 6 + 2 from by omega]; exact h2
  · rw [show off + j = off + j / 6 * 6 + 3 from by omega]; exact h3
  · rw [show off + j = off + j / 6 * 6 + 4 from by omega]; exact h4
  · rw [show off + j = off + j / 6 * 6 + 5 from by omega]; exact h5
theorem wpList_app_lns {ops : Array Oper} {rest : List Oper} {o : Oper} {a : Act} {Q : Exit → Act → World → Prop} (w : World) (hgd : o.guard = none) (s x : Operand)
    (ho : o.op = .call { callee := .builtin .append, args := #[s, x], argTypes := #[22, 22] })
    (B : Nat) (v : Value) (hs : a.eval s = v) (hown : GrowN w B v []) (b off m c : Nat) (L : List LnC) (hx : a.eval x = .slice (some ⟨b, off, none⟩) m c) (hsrc : ∀ j, j < L.length → LnIs w b (off + j * 6) (lcth L j).l (lcth L j).a (lcth L j).c) (hm : L.length = m)
    (hb : m ≤ 1000) (hB : B ≤ w.heap.size)
    (h : ∀ v' w', GrowN w' B v' L → Below B w w' → wpList Tryz.prog ops Q rest (a.put o.dst v') w') :
    wpList Tryz.prog ops Q (o :: rest) a w := by
  obtain ⟨i0, hi, hz0, hz1, hz2⟩ := info_parts info_ln
  obtain ⟨v', w', hr, h2, h3, _, h5⟩ := run_append_own_at (P := Tryz.prog) w B 22 o.type 44 i0 _ 6 80 Tryz.underlying22 hi hz0 hz1 hz2 rfl (by decide) v 0 [] hown ⟨b, off, none⟩ m c (cellsN L) (by rw [cellsN_length, hm]) (lcells hsrc) (cellsN_one L) (by unfold maxLen; omega) (by omega) hB
  refine wpList_plain hgd fun _ hK => ?_
  unfold Oper.wp execOp
  simp only [ho, resolve, invoke, builtin, Sem.run_bind, Sem.run_pure, Result.andThen_ok, List.map_toArray, List.map_cons, List.map_nil, hs, hx, hr]
  refine hK _ _ (h v' w' ?_ ((Below.refl B w).grown h3 hB fun k hk => (GrowN.lt hown k hk).1))
  unfold GrowN
  rw [Nat.zero_add, List.nil_append, ← hm] at h2
  exact h2
/-- An empty row of the call's own. -/
theorem GrowN.empty (w : World) : GrowN (w.alloc (.cells #[] 44)) w.heap.size (.slice (some ⟨w.heap.size, 0, none⟩) 0 0) [] := by
  refine ⟨by simp [cellsN], .inr ⟨w.heap.size, 0, #[], rfl, Nat.le_refl _, (MapKept.heap_alloc w _).1, Nat.le_refl _, by unfold maxLen; omega, rfl, rfl⟩⟩
/-- The lines, one of them with another expression. -/
def chgL (l : List Ln) (c o : Nat) (x : Ex) : List Ln := (l.take c).set o ⟨(lnth l o).kind, (lnth l o).name, x⟩
theorem chg_len {l : List Ln} {c o : Nat} {x : Ex} (hc : c ≤ l.length) : (chgL l c o x).length = c := by unfold chgL; rw [List.length_set, List.length_take]; omega
theorem chg_at {l : List Ln} {c o j : Nat} {x : Ex} (hj : j < c) (hn : j ≠ o) : lnth (chgL l c o x) j = lnth l j := by
  unfold chgL lnth
  simp only [List.getD_eq_getElem?_getD]
  rw [List.getElem?_set_ne (by omega), List.getElem?_take_of_lt hj]
theorem chg_o {l : List Ln} {c o : Nat} {x : Ex} (ho : o < c) (hc : c ≤ l.length) : lnth (chgL l c o x) o = ⟨(lnth l o).kind, (lnth l o).name, x⟩ := by
  unfold chgL
  show (List.getD _ o _) = _
  rw [List.getD_eq_getElem?_getD, List.getElem?_set_self (by rw [List.length_take]; omega)]
  rfl
/-- A row of lines in a block of its own, of which one has another expression now. -/
theorem chg_came {w : World} {B g c0 : Nat} {L : List LnC} {l : List Ln} {c o : Nat} {z : Int} (hg : GrowN w B (.slice (some ⟨g, 0, none⟩) c c0) L) (hl : L.length = c) (hL : ∀ j, j < c → (lcth L j).l = lnth l j ∧ (lcth L j).l.name.size ≤ maxLen) (hkid : ∀ j, j < c → KidsAt (putL w g (o * 6 + 2) [.int .i64 1, .int .i64 z, .string ⟨#[]⟩, .slice none 0 0]) (lcth L j).l.ex (lcth L j).a) (hc : c ≤ l.length) (ho : o < c) :
    CameL (putL w g (o * 6 + 2) [.int .i64 1, .int .i64 z, .string ⟨#[]⟩, .slice none 0 0]) (some ⟨g, 0, none⟩) (chgL l c o (leafX 1 z noT)) := by
  have hlt := hg.lt g rfl
  have key : ∀ j, j < c → ∀ q, q < 6 → ∀ u, (lnL (lcth L j).l (lcth L j).a (lcth L j).c)[q]? = some u → w.cell? ⟨g, j * 6 + q, none⟩ = some u := fun j hj q hq u hu => by
    have := World.ownsRow.cells hg (g := g) rfl (j * 6 + q) u ((cellsN_get L j q (by omega) hq).trans hu)
    rwa [Addr.add_lit, Nat.zero_add] at this
  have far : ∀ k, (k < o * 6 + 2 ∨ o * 6 + 6 ≤ k) → (putL w g (o * 6 + 2) [.int .i64 1, .int .i64 z, .string ⟨#[]⟩, .slice none 0 0]).cell? ⟨g, k, none⟩ = w.cell? ⟨g, k, none⟩ := fun k hk => by
    simp only [putL]
    rw [World.cell?_setCell_other (h := fun e => by injection e; omega), World.cell?_setCell_other (h := fun e => by injection e; omega), World.cell?_setCell_other (h := fun e => by injection e; omega), World.cell?_setCell_other (h := fun e => by injection e; omega)]
  refine .inr ⟨g, 0, rfl, by rw [putL_size]; exact hlt.2, fun j hj => ?_⟩
  rw [chg_len hc] at hj
  rw [Nat.zero_add]
  by_cases e : j = o
  · subst e
    rw [chg_o ho hc]
    have hcell := putL_cell g [.int .i64 1, .int .i64 z, .string ⟨#[]⟩, .slice none 0 0] (j * 6 + 2) w (fun q hq => by
      have hq' : q < 4 := hq
      exact ⟨(lnL (lcth L j).l (lcth L j).a (lcth L j).c)[2 + q]'(by rw [lnL_len]; omega), by rw [show j * 6 + 2 + q = j * 6 + (2 + q) by omega]; exact key j hj (2 + q) (by omega) _ (List.getElem?_eq_getElem _)⟩)
    refine ⟨none, 0, ⟨(far _ (by omega)).trans ?_, (far _ (by omega)).trans ?_, hcell 0 _ rfl, hcell 1 _ rfl, hcell 2 _ rfl, hcell 3 _ rfl⟩, ?_, ⟨by unfold noT maxLen; exact Nat.zero_le _, by unfold maxLen; omega, .inl rfl⟩⟩
    · have := key j hj 0 (by omega) _ rfl
      rw [(hL j hj).1] at this
      exact this
    · have := key j hj 1 (by omega) _ rfl
      rw [(hL j hj).1] at this
      exact this
    · have := (hL j hj).2
      rw [(hL j hj).1] at this
      exact this
  · rw [chg_at hj e, ← (hL j hj).1]
    exact ⟨_, _, ⟨(far _ (by omega)).trans (key j hj 0 (by omega) _ rfl), (far _ (by omega)).trans (key j hj 1 (by omega) _ rfl), (far _ (by omega)).trans (key j hj 2 (by omega) _ rfl), (far _ (by omega)).trans (key j hj 3 (by omega) _ rfl), (far _ (by omega)).trans (key j hj 4 (by omega) _ rfl), (far _ (by omega)).trans (key j hj 5 (by omega) _ rfl)⟩, (hL j hj).2, hkid j hj⟩
end Go.Proofs.YtjpjnmhjfpmglaaGreatDoor
set_option linter.unusedSimpArgs false
namespace Go.Proofs.YtjpjnmhjfpmglaaGreatDoor
open Go.RowKit Go.Maps Go.WideMaps

set_option maxRecDepth 100000 in
set_option maxHeartbeats 1000000 in
theorem place_any (a : Option Addr) (n c : Nat) (l : List Int) (x : Int) (w : World) (hn : l.length = n) (hm : n ≤ 1000) (ha : n = 0 ∨ ∃ g, a = some ⟨g, 0, none⟩ ∧ At w g 0 l) :
    Calls Tryz.prog 16 #[.slice a n c, .int .i64 x] w fun e w' => (∃ r : Int, e = .returned (.int .i64 r) ∧ -1 ≤ r ∧ r ≤ 1000 ∧ (r < 0 → ¬ x ∈ l)) ∧ w' = w := by
  have HA := Lib.hid ha
  have HN := Lib.hid hn
  clear ha hn
  go_enter Tryz.func16, Tryz.ntmps16
  go_wp2_with fail
  go_loopw [5] (fun i wr => ∃ j : Nat, j ≤ n ∧ i = .int .i64 j ∧ wr = w ∧ ∀ q, q < j → nth l q ≠ x) (fun i _ => n - (intOf i).toNat)
  case atStart => exact ⟨0, Nat.zero_le _, rfl, rfl, fun q hq => absurd hq (by omega)⟩
  case round =>
    obtain ⟨j, hj, rfl, hw, hno⟩ := hrel
    subst wr
    have HNO := Lib.hid hno
    clear hno
    by_cases hlt : j < n
    · have hlt' : (j : Int) < (n : Int) := by omega
      obtain ⟨g, rfl, hat⟩ : ∃ g, a = some ⟨g, 0, none⟩ ∧ At w g 0 l := by
        rcases HA.out with h | h
        · omega
        · exact h
      have x0 := hat.cell (j := j) (by rw [HN.out]; exact hlt)
      rw [Nat.zero_add] at x0
      clear hat
      obtain ⟨y, hy⟩ : ∃ y, nth l j = y := ⟨_, rfl⟩
      rw [hy] at x0
      by_cases he : y = x
      · subst he
        have HR : Hid ((∃ r : Int, Ending.returned (.int .i64 (j : Int)) = .returned (.int .i64 r) ∧ -1 ≤ r ∧ r ≤ 1000 ∧ (r < 0 → ¬ y ∈ l))) := ⟨j, rfl, by omega, by omega, fun h => by omega⟩
        have hee : (y == y) = true := by simp
        clear hy
        go_wp2_with fail
        go_ret
        exact ⟨HR.out, rfl⟩
      · have hee : (y == x) = false := by simp [he]
        have hed : decide (y = x) = false := decide_eq_false he
        have HNJ : Hid (∀ q, q < j + 1 → nth l q ≠ x) := fun q hq => by
          by_cases e : q = j
          · rw [e, hy]; exact he
          · exact HNO.out q (by omega)
        clear hy he
        go_wp2_with fail
        go_roundw
        case rel => exact ⟨j + 1, by omega, by go_num, (by first | trivial | rfl), HNJ.out⟩
        case measure => simp [intOf]; omega
    · have hjn : j = n := by omega
      have HR : Hid ((∃ r : Int, Ending.returned (.int .i64 (-1)) = .returned (.int .i64 r) ∧ -1 ≤ r ∧ r ≤ 1000 ∧ (r < 0 → ¬ x ∈ l))) := ⟨-1, rfl, by omega, by omega, fun _ hx => by
        obtain ⟨i, hi, rfl⟩ := List.mem_iff_getElem.1 hx
        exact HNO.out i (by have := HN.out; omega) (by unfold nth; rw [List.getD_eq_getElem?_getD, List.getElem?_eq_getElem hi]; rfl)⟩
      have hltB : decide ((j : Int) < (n : Int)) = false := decide_eq_false (by omega)
      clear hjn
      go_wp2_with fail
      go_ret
      exact ⟨HR.out, rfl⟩
set_option maxRecDepth 100000 in
theorem run_lns1 (b off n c k : Nat) (hk : k + 1 ≤ n) (hn : n ≤ c) (w : World) :
    (Instr.slice 22 (.slice (some ⟨b, off, none⟩) n c) none (some (.int .i64 ((k : Int) + 1))) none).run Tryz.prog w = .ok (.slice (some ⟨b, off, none⟩) (k + 1) c) w := by
  obtain ⟨i0, hi, hz0, hz1, hz2⟩ := info_parts info_ln
  have h1 : (k : Int) + 1 ≤ (c : Int) := by omega
  have h2 : (0 : Int) ≤ (k : Int) + 1 := by omega
  have h3 : ((k : Int) + 1).toNat = k + 1 := by omega
  simp [Instr.slice, Instr.sliceBounds, Instr.sliceBound, asIntOf, run_underlying Tryz.underlying22, sizeOf, typeInfo, hi, h1, h2, h3, Addr.add_lit]
theorem GrowN.row {w : World} {B : Nat} {v : Value} {L : List LnC} (h : GrowN w B v L) (h0 : 0 < L.length) : ∃ g c, v = .slice (some ⟨g, 0, none⟩) L.length c ∧ B ≤ g ∧ L.length ≤ c ∧ (∀ j, w.frozen? ⟨g, j, none⟩ = false) ∧ (∀ j q, j < L.length → q < 6 → ∃ u, w.cell? ⟨g, j * 6 + q, none⟩ = some u) := by
  have hh := h
  rcases h.2 with ⟨_, h2⟩ | ⟨g, c, cur, h1, h2, hgc, h4, _⟩
  · omega
  · refine ⟨g, c, h1, h2, h4, fun j => by simp [World.frozen?, hgc], fun j q hj hq => ?_⟩
    subst h1
    have := World.ownsRow.cells hh (g := g) rfl (j * 6 + q) _ ((cellsN_get L j q hj hq).trans (List.getElem?_eq_getElem (by rw [lnL_len]; exact hq)))
    rw [Addr.add_lit, Nat.zero_add] at this
    exact ⟨_, this⟩
theorem grow_at {w : World} {B : Nat} {v : Value} {l : List Int} (h : Grow w B v l) : ∃ x c, v = .slice x l.length c ∧ (l.length = 0 ∨ ∃ g, x = some ⟨g, 0, none⟩ ∧ At w g 0 l) := by
  obtain ⟨x, c, hx, _⟩ := grow_cap h
  refine ⟨x, c, hx, ?_⟩
  by_cases h0 : l.length = 0
  · exact .inl h0
  · obtain ⟨g, c', h1, _, o1⟩ := h.own (by omega)
    rw [hx] at h1
    injection h1 with h1 _ _
    exact .inr ⟨g, h1, o1.at⟩
set_option maxRecDepth 100000 in
set_option maxHeartbeats 2000000 in
theorem walk_valueHangs (a : Option Addr) (n cap : Nat) (l : List Ln) (a1 : Option Addr) (n1 c1 : Nat) (a2 : Option Addr) (n2 c2 : Nat) (a3 : Option Addr) (n3 c3 : Nat) (k : Kn) (li : Int) (wf : (Lit.int .i64 li).wf = true) (ot : Int) (wf2 : (Lit.int .i64 ot).wf = true) (nu : Int) (wf3 : (Lit.int .i64 nu).wf = true) {w : World} (hl : CameL w a l) (hn : l.length = n) (hm : n ≤ maxLen) (hcap : n ≤ cap) (hcm : cap ≤ maxLen) (hc : CameK w a1 a2 a3 k) (h1 : k.ins.length = n1) (h2 : k.tbs.length = n2) (h3 : k.yrs.length = n3) (hP : PVars w ∧ Shp w) :
    Calls Tryz.prog 5 #[.slice a n cap, .agg #[.slice a1 n1 c1, .slice a2 n2 c2, .slice a3 n3 c3], .int .i64 li, .int .i64 ot, .int .i64 nu] w fun e w' => e = .returned (.bool true) ∧ Below w.heap.size w w' := by
  obtain ⟨m1, m2⟩ : -9223372036854775808 ≤ li ∧ li ≤ 9223372036854775807 := by simp only [Lit.wf, Bool.and_eq_true, decide_eq_true_eq] at wf; exact wf
  obtain ⟨m3, m4⟩ : -9223372036854775808 ≤ ot ∧ ot ≤ 9223372036854775807 := by simp only [Lit.wf, Bool.and_eq_true, decide_eq_true_eq] at wf2; exact wf2
  obtain ⟨m5, m6⟩ : -9223372036854775808 ≤ nu ∧ nu ≤ 9223372036854775807 := by simp only [Lit.wf, Bool.and_eq_true, decide_eq_true_eq] at wf3; exact wf3
  have HB0 := Lib.hid (kbelow_box w (.cells #[.slice a1 n1 c1, .slice a2 n2 c2, .slice a3 n3 c3] 30))
  have HK0 := Lib.hid (KAt.made w (.slice a1 n1 c1) (.slice a2 n2 c2) (.slice a3 n3 c3) 30)
  have HL := Lib.hid hl
  have HN := Lib.hid hn
  have HM := Lib.hid hm
  have HC := Lib.hid hc
  have H1 := Lib.hid h1
  have H2 := Lib.hid h2
  have H3 := Lib.hid h3
  have HCM := Lib.hid hcm
  have HP0 := Lib.hid (pv_below _ _ hP HB0.out)
  clear wf wf2 wf3 hl hn hm hc h1 h2 h3 hP hcm
  go_enter Tryz.func5, Tryz.ntmps5
  go_wp2_with fail
  refine (valueBegun_any _ HP0.out.1 HP0.out.2).mono ?_
  rintro e w1 ⟨rfl, hb1⟩
  have HB1 := Lib.hid (HB0.out.trans (hb1.mono HB0.out.size))
  have HK1 := Lib.hid (KAt.below HK0.out hb1)
  have HP1 := Lib.hid (pv_below _ _ HP0.out hb1)
  clear hb1 HK0 HB0 HP0
  obtain ⟨_, x0, x1, x2⟩ := HK1.out
  go_wp2_with fail
  refine (VLines_any a n cap l a1 a2 a3 n1 n2 n3 c1 c2 c3 k _ HP1.out.2 (HL.out.below HB1.out) HN.out HM.out ⟨HC.out.1.below HB1.out, HC.out.2.1.below HB1.out, HC.out.2.2.1.below HB1.out, HC.out.2.2.2⟩ H1.out H2.out H3.out).mono ?_
  intro e w2 hr
  have HB2 := Lib.hid (HB1.out.trans (hr.1.mono HB1.out.size))
  have HK2 := Lib.hid (KAt.below HK1.out hr.1)
  have HP2 := Lib.hid (pv_below _ _ HP1.out hr.1)
  clear x0 x1 x2 HK1 HP1
  obtain ⟨hb2, ⟨i, er, h0, hbi, rfl⟩ | ⟨_, vs, hv, rfl⟩ | ⟨hbi, vs, v, B, hv, _, hg, rfl⟩⟩ := hr
  · have d0 : (er != 0) = true := by simp [h0]
    have d0' : (er == 0) = false := by simp [h0]
    clear h0 hbi hb2
    go_wp2_with fail
    go_ret
    exact ⟨rfl, HB2.out⟩
  · clear hv hb2
    go_wp2_with fail
    go_ret
    exact ⟨rfl, HB2.out⟩
  · obtain ⟨hE, hkn, hok⟩ : linesE l = 0 ∧ knE k = 0 ∧ ∀ q, q < l.length → lineOk l k q = 0 := by
      rcases hbi with ⟨q1, _, q2⟩ | ⟨_, q1, _, q2⟩ | ⟨q1, q2, ⟨_, _, q3⟩ | ⟨_, _, _, _, q, _⟩⟩
      · exact absurd q2.symm q1
      · exact absurd q2.symm q1
      · exact ⟨q1, q2, q3⟩
      · exact absurd rfl q
    have HE := Lib.hid (And.intro hE (And.intro hkn hok))
    have HV := Lib.hid hv
    have hlv := linesV_len _ _ hv
    obtain ⟨xv, cv, rfl, hcv⟩ := grow_cap hg
    rw [hlv, HN.out] at hg hcv ⊢
    have HG := Lib.hid hg
    have HLV := Lib.hid hlv
    have h40 : n ≤ 40 := by rw [← HN.out]; exact linesE_40 hE
    clear hbi hb2 hE hkn hok hv hg hlv
    by_cases hn0 : n = 0
    · have d0 : ((n : Int) == 0) = true := by simp [hn0]
      have d0' : decide ((n : Int) = 0) = true := decide_eq_true (by omega)
      clear hn0
      go_wp2_with fail
      go_ret
      exact ⟨rfl, HB2.out⟩
    have d0 : ((n : Int) == 0) = false := by simp; omega
    have d0' : decide ((n : Int) = 0) = false := decide_eq_false (by omega)
    obtain ⟨z, hz⟩ : ∃ z : Nat, chooseI li (n : Int) = (z : Int) := ⟨(chooseI li (n : Int)).toNat, by have := choose_bd li (n : Int) (by omega); omega⟩
    have hzb : z < n := by have := choose_bd li (n : Int) (by omega); omega
    have HCH := Lib.hid (fun w => choose_any li (n : Int) w m1 m2 (by omega) (by omega))
    rw [hz] at HCH
    clear hz
    go_wp2_with fail
    refine (HCH.out _).mono ?_
    rintro e w3 ⟨rfl, hw⟩
    subst w3
    go_wp2_with fail
    refine (Uses_any a n cap l (z : Int) w2 HP2.out.2 (HL.out.below HB2.out) HN.out hcap HCM.out).mono ?_
    rintro e w3 ⟨u, er, rfl, hu, hb3⟩
    obtain ⟨rfl, p, hp, hpl, BU, _, hgu⟩ : er = 0 ∧ ∃ p : Nat, (z : Int) = p ∧ p < l.length ∧ ∃ B, w2.heap.size ≤ B ∧ Grow w3 B u (placesOf (usedN (l.take (p + 1)) p (p + 1)) p) := by
      rcases hu with ⟨h, _⟩ | ⟨_, h, _⟩ | ⟨_, h, h'⟩
      · exact absurd HE.out.1 h
      · rw [HN.out] at h; omega
      · exact ⟨h, h'⟩
    obtain rfl : z = p := by omega
    have hus : ∀ t j, usedN (l.take (z + 1)) z t j = usedN l z t j := fun t j => used_same (fun q hq => lnth_tk (by omega)) t j
    have hu2 : usedN (l.take (z + 1)) z (z + 1) = usedN l z (z + 1) := funext fun j => hus _ j
    rw [hu2] at hgu
    have hlu := placesOf_len (usedN l z (z + 1)) z
    obtain ⟨xu, cu, rfl, hau⟩ := grow_at hgu
    have HAU := Lib.hid hau
    have HB3 := Lib.hid (HB2.out.trans (hb3.mono HB2.out.size))
    have HK3 := Lib.hid (KAt.below HK2.out hb3)
    have HP3 := Lib.hid (pv_below _ _ HP2.out hb3)
    have HG3 := Lib.hid (rvgrow_below HG.out hb3)
    clear hu hb3 hgu hus hu2 hau hp hpl HK2 HP2
    obtain ⟨U, hU⟩ : ∃ U, placesOf (usedN l z (z + 1)) z = U := ⟨_, rfl⟩
    rw [hU] at hlu HAU ⊢
    have HU := Lib.hid hU
    clear hU
    by_cases hz0 : z = 0
    · have d1 : ((z : Int) == 0) = true := by simp [hz0]
      have d1' : decide ((z : Int) = 0) = true := decide_eq_true (by omega)
      clear hz0
      go_wp2_with fail
      go_ret
      exact ⟨rfl, HB3.out⟩
    have d1 : ((z : Int) == 0) = false := by simp; omega
    have d1' : decide ((z : Int) = 0) = false := decide_eq_false (by omega)
    obtain ⟨o, ho⟩ : ∃ o : Nat, chooseI ot (z : Int) = (o : Int) := ⟨(chooseI ot (z : Int)).toNat, by have := choose_bd ot (z : Int) (by omega); omega⟩
    have hob : o < z := by have := choose_bd ot (z : Int) (by omega); omega
    have HCO := Lib.hid (fun w => choose_any ot (z : Int) w m3 m4 (by omega) (by omega))
    rw [ho] at HCO
    clear ho
    go_wp2_with fail
    refine (HCO.out _).mono ?_
    rintro e w4 ⟨rfl, hw⟩
    subst w4
    go_wp2_with fail
    refine (place_any xu U.length cu U (o : Int) w3 rfl (by omega) HAU.out).mono ?_
    rintro e w4 ⟨⟨r, rfl, hr1, hr2, hr3⟩, hw⟩
    subst w4
    by_cases hr0 : 0 ≤ r
    · clear hr3
      go_wp2_with fail
      go_ret
      exact ⟨rfl, HB3.out⟩
    have d2 : decide (0 ≤ r) = false := decide_eq_false hr0
    have HNU : Hid (usedN l z (z + 1) o = false) := by
      unfold Hid
      cases hb : usedN l z (z + 1) o with
      | false => rfl
      | true => exact absurd (by rw [← HU.out]; exact places_mem _ o z hob hb) (hr3 (by omega))
    clear hr3 hr0
    obtain ⟨b, off, rfl, hB, hcells⟩ : ∃ b off, a = some ⟨b, off, none⟩ ∧ b < w.heap.size ∧ ∀ j, j < l.length → LnAt w b (off + j * 6) (lnth l j) := by
      rcases HL.out with h | h
      · rw [HN.out] at h; omega
      · exact h
    have hbx := kbelow_box w3 (.cells #[] 44)
    have HBX := Lib.hid (HB3.out.trans (hbx.mono HB3.out.size))
    obtain ⟨L, hLl, hL⟩ := CameL.list (w := w) (b := b) (off := off) (l := l) hcells (c := z + 1) (by rw [HN.out]; omega)
    have HLS := Lib.hid hL
    have hsl := run_lns1 b off n cap z (by omega) hcap
    clear hcells hL hbx
    go_wp2_with (at_builtin; refine wpList_app_lns _ rfl _ _ rfl w3.heap.size (.slice (some ⟨w3.heap.size, 0, none⟩) 0 0) rfl (GrowN.empty w3) b off (z + 1) cap L rfl (fun j hj => ((HLS.out j (by omega)).2.1).below HBX.out hB) hLl (by omega) (by simp) ?_; intro v9 w9 hg9 hb9; refine Hid.out ?_)
    obtain ⟨g9, c9, rfl, hgB, hgc, hgf, hgx⟩ := hg9.row (by omega)
    rw [hLl] at hg9 hgc hgx ⊢
    have HG9 := Lib.hid hg9
    have HB39 := Lib.hid ((kbelow_box w3 (.cells #[] 44)).trans hb9)
    have HB9 := Lib.hid (HB3.out.trans (HB39.out.mono HB3.out.size))
    have HGX := Lib.hid hgx
    have hgn : w.heap.size ≠ g9 := by have := HB3.out.size; have := HK3.out.1; omega
    have hgn' : g9 ≠ w.heap.size := Ne.symm hgn
    have HCN := Lib.hid (fun w => choose_any nu 1000 w m5 m6 (by omega) (by omega))
    obtain ⟨q9, hq9⟩ : ∃ q, chooseI nu 1000 = q := ⟨_, rfl⟩
    rw [hq9] at HCN
    obtain ⟨v2, k2⟩ := hgx o 2 (by omega) (by omega)
    obtain ⟨v3, k3⟩ := hgx o 3 (by omega) (by omega)
    obtain ⟨v4, k4⟩ := hgx o 4 (by omega) (by omega)
    obtain ⟨v5, k5⟩ := hgx o 5 (by omega) (by omega)
    have f2 := hgf (o * 6 + 2)
    have f3 := hgf (o * 6 + 3)
    have f4 := hgf (o * 6 + 4)
    have f5 := hgf (o * 6 + 5)
    obtain ⟨_, x0, x1, x2⟩ := KAt.below HK3.out HB39.out
    have ho' : (o : Int) < (z : Int) + 1 := by omega
    clear hg9 hb9 hgx hgf hq9
    refine Lib.hid ?_
    go_wp2_with fail
    refine (HCN.out _).mono ?_
    rintro e w10 ⟨rfl, hw⟩
    subst w10
    go_wp2_with fail
    obtain ⟨W, hW⟩ : ∃ W, (((w9.setCell ⟨g9, o * 6 + 2, none⟩ (.int .i64 1)).setCell ⟨g9, o * 6 + 2 + 1, none⟩ (.int .i64 q9)).setCell ⟨g9, o * 6 + 2 + 2, none⟩ (.string ⟨#[]⟩)).setCell ⟨g9, o * 6 + 2 + 3, none⟩ (.slice none 0 0) = W := ⟨_, rfl⟩
    have hWp : putL w9 g9 (o * 6 + 2) [.int .i64 1, .int .i64 q9, .string ⟨#[]⟩, .slice none 0 0] = W := hW
    have HB310 : Hid (Below w3.heap.size w3 W) := by
      rw [← hW]
      exact (((HB39.out.setCell (p := ⟨g9, o * 6 + 2, none⟩) hgB _).setCell (p := ⟨g9, o * 6 + 2 + 1, none⟩) hgB _).setCell (p := ⟨g9, o * 6 + 2 + 2, none⟩) hgB _).setCell (p := ⟨g9, o * 6 + 2 + 3, none⟩) hgB _
    have HB10 := Lib.hid (HB3.out.trans (HB310.out.mono HB3.out.size))
    have HC10 : Hid (CameL W (some ⟨g9, 0, none⟩) (chgL l (z + 1) o (leafX 1 q9 noT))) := by
      have := chg_came (o := o) (z := q9) HG9.out hLl (fun j hj => ⟨(HLS.out j hj).1, (HLS.out j hj).2.2.2⟩) (fun j hj => by rw [hWp]; exact (HLS.out j hj).2.2.1.below HB10.out) (by rw [HN.out]; omega) (by omega)
      rwa [hWp] at this
    rw [hW]
    clear hW hWp x0 x1 x2 k2 k3 k4 k5 f2 f3 f4 f5
    have hml : (chgL l (z + 1) o (leafX 1 q9 noT)).length = z + 1 := chg_len (by rw [HN.out]; omega)
    have HML := Lib.hid hml
    refine (VLines_any (some ⟨g9, 0, none⟩) (z + 1) c9 (chgL l (z + 1) o (leafX 1 q9 noT)) a1 a2 a3 n1 n2 n3 c1 c2 c3 k W (pv_below _ _ HP3.out HB310.out).2 HC10.out hml (by unfold maxLen; omega) ⟨HC.out.1.below HB10.out, HC.out.2.1.below HB10.out, HC.out.2.2.1.below HB10.out, HC.out.2.2.2⟩ H1.out H2.out H3.out).mono ?_
    intro e w11 hr
    have HB11 := Lib.hid (HB10.out.trans (hr.1.mono HB10.out.size))
    have HB311 := Lib.hid (HB310.out.trans (hr.1.mono HB310.out.size))
    clear hml
    obtain ⟨hb11, ⟨i, er, h0, hbi, rfl⟩ | ⟨_, us, hv, rfl⟩ | ⟨hbi, us, v, B', hv, _, hg, rfl⟩⟩ := hr
    · have d3 : (er != 0) = true := by simp [h0]
      have d3' : (er == 0) = false := by simp [h0]
      clear h0 hbi hb11
      go_wp2_with fail
      go_quiet (fail)
      go_wp2_with fail
      go_ret
      exact ⟨rfl, kbelow_dN HB11.out _⟩
    · clear hv hb11
      go_wp2_with fail
      go_quiet (fail)
      go_wp2_with fail
      go_ret
      exact ⟨rfl, kbelow_dN HB11.out _⟩
    · have hlu2 := linesV_len _ _ hv
      rw [HML.out] at hlu2
      have hokm : ∀ q, q < (chgL l (z + 1) o (leafX 1 q9 noT)).length → lineOk (chgL l (z + 1) o (leafX 1 q9 noT)) k q = 0 := by
        rcases hbi with ⟨q1, _, q2⟩ | ⟨_, q1, _, q2⟩ | ⟨_, _, ⟨_, _, q3⟩ | ⟨_, _, _, _, q, _⟩⟩
        · exact absurd q2.symm q1
        · exact absurd q2.symm q1
        · exact q3
        · exact absurd rfl q
      have hsame := hang_same (m := chgL l (z + 1) o (leafX 1 q9 noT)) HE.out.1 HE.out.2.2 HV.out (line := z) (other := o) (by rw [HN.out]; exact hzb) HNU.out hob HML.out (fun j hj hjo => chg_at hj hjo) (fun j hj => by
        by_cases e : j = o
        · subst e; rw [chg_o hj (by rw [HN.out]; omega)]
        · rw [chg_at hj e]) hokm hv
      obtain ⟨g1, cc1, e1, _, o1⟩ := hg.own (by omega)
      subst e1
      obtain ⟨g2, cc2, e2, _, o2⟩ := (rvgrow_below HG3.out HB311.out).own (by rw [HLV.out, HN.out]; omega)
      rw [HLV.out, HN.out] at e2
      injection e2 with e2 _ e3
      subst e2 e3
      have y1 := o1.at.cell (j := z) (by omega)
      have y2 := o2.at.cell (j := z) (by rw [HLV.out, HN.out]; exact hzb)
      rw [Nat.zero_add] at y1 y2
      have hs2 : nth us z = nth vs z := hsame
      rw [hs2] at y1
      obtain ⟨y, hy⟩ : ∃ y, nth vs z = y := ⟨_, rfl⟩
      rw [hy] at y1 y2
      rw [hlu2]
      have hz1 : (z : Int) < (z : Int) + 1 := by omega
      have hz2 : (z : Int) < (n : Int) := by omega
      have hyy : (y == y) = true := by simp
      clear hbi hv hg o1 o2 hsame hs2 hy hokm hb11 hlu2
      go_wp2_with fail
      go_quiet (fail)
      go_wp2_with fail
      go_ret
      exact ⟨rfl, kbelow_dN HB11.out _⟩
end Go.Proofs.YtjpjnmhjfpmglaaGreatDoor
