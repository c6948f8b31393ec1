/-
  Promise H3: the walks of every with markUsed's part, and of markUsed.
-/
import Derived.Test.YtoingnhiipfnlaaDoorNMark
namespace Go.Proofs.YtoingnhiipfnlaaDoor
open Go.RowKit Go.Maps Go.WideMaps

theorem grown_lt {w0 w w' : World} {ab sb mb mm ub n : Nat} {g : ByteArray → Option Nat} {u v : Nat → Bool} (h : MSt w0 w ab sb mb mm ub n g u) (hg : w.grownBy w' (some ub)) (hr : URow w' ub n v) : MSt w0 w' ab sb mb mm ub n g v := by
  obtain ⟨h1, h2, h3, h4, h5, h6, h7, h8, h9, h10⟩ := h
  refine ⟨grown_below h1 hg h9, ?_, ?_, h4.kept hg h8, hr, h6, h7, h8, h9, h10⟩
  · rw [World.cell?_of_block (w := w) (hg.block ab (blt_of_cell h2) (by intro e; injection e with e; exact h6 e))]; exact h2
  · rw [World.cell?_of_block (w := w) (hg.block sb (blt_of_cell h3) (by intro e; injection e with e; exact h7 e))]; exact h3
theorem xbox_grown {w w' : World} {b ub : Nat} {k n : Int} {s : ByteArray} {a : Option Addr} {m c : Nat} (h : XBox w b k n s a m c) (hg : w.grownBy w' (some ub)) (hne : b ≠ ub) : XBox w' b k n s a m c := by
  obtain ⟨h0, h1, h2, h3, h4⟩ := h
  have e : ∀ o, w'.cell? ⟨b, o, none⟩ = w.cell? ⟨b, o, none⟩ := fun o => World.cell?_of_block (w := w) (hg.block b h0 (by intro e; injection e with e; exact hne e))
  exact ⟨Nat.lt_of_lt_of_le h0 hg.size, by rw [e]; exact h1, by rw [e]; exact h2, by rw [e]; exact h3, by rw [e]; exact h4⟩
set_option maxRecDepth 100000 in
set_option maxHeartbeats 2000000 in
theorem every_mark (w0 : World) (ab sb mb mm ub n : Nat) (g : ByteArray → Option Nat) (hn : n ≤ 40) (x : Ex) : ∀ (a : Option Addr) (c : Nat) (u : Nat → Bool) (w : World), KidsAt w0 x a → MSt w0 w ab sb mb mm ub n g u →
    Calls Tryd.prog 73 #[.agg #[.int .i64 x.k, .int .i64 x.n, .string x.s, .slice a x.m c], .func (.func 98) #[] #[.pointer (some ⟨ab, 0, none⟩), .pointer (some ⟨sb, 0, none⟩)]] w fun e w' => MarkRet w0 w ab sb mb mm ub n g (fun j => u j || x.hit g j) e w' := by
  induction x with
  | no => intro a c u w h; exact h.elim
  | mk k nn s m kid ih =>
    intro a c u w hk hst
    show Calls Tryd.prog 73 #[.agg #[.int .i64 k, .int .i64 nn, .string s, .slice a m c], .func (.func 98) #[] #[.pointer (some ⟨ab, 0, none⟩), .pointer (some ⟨sb, 0, none⟩)]] w _
    have hm : m ≤ 9223372036854775807 := by have := hk.many; unfold maxLen at this; exact this
    have HSZ : Hid (s.size ≤ maxLen) := Lib.hid hk.name
    have HK := Lib.hid hk
    have HST := Lib.hid hst
    have HB0 := Lib.hid (kbelow_box w (.cells #[.int .i64 k, .int .i64 nn, .string s, .slice a m c] 50))
    have HX0 := Lib.hid (XBox.made w k nn s a m c 50)
    have hne : w.heap.size ≠ ub := by have := hst.2.2.2.2.1.1; omega
    have HM := Lib.hid (fun j => hit_mk g j k nn s m kid)
    have HIH := Lib.hid ih
    clear hk ih hst
    go_enter Tryd.func73, Tryd.ntmps73
    go_wp2_with fail
    refine (mark1_any k nn s a m c w0 ab sb mb mm ub n g u _ HSZ.out hn (HST.out.below HB0.out)).mono ?_
    rintro e w1 ⟨rfl, hst1, hg1⟩
    have HST1 := Lib.hid hst1
    have HG1 := Lib.hid ((grown_of_below ub HB0.out).trans hg1)
    have HX1 := Lib.hid (xbox_grown HX0.out hg1 hne)
    clear hst1 hg1 HX0 HB0
    obtain ⟨_, y0, y1, y2, y3⟩ := HX1.out
    go_wp2_with fail
    go_loopw [14] (fun i wr => ∃ j : Nat, j ≤ m ∧ i = .int .i64 j ∧ MSt w0 wr ab sb mb mm ub n g (fun q => u q || ((decide (k = 2) && decide (g s = some q)) || anyN (fun i => (kid i).hit g q) j)) ∧ w.grownBy wr (some ub)) (fun i _ => m - (intOf i).toNat)
    case atStart => exact ⟨0, Nat.zero_le _, rfl, HST1.out.congr (fun q _ => by simp [anyN]), HG1.out⟩
    case round =>
      obtain ⟨j, hj, rfl, hf, hg⟩ := hrel
      have HF := Lib.hid hf
      have HG := Lib.hid hg
      clear hf hg
      by_cases hlt : j < m
      · have hlt' : (j : Int) < (m : Int) := by omega
        obtain ⟨b, off, rfl, hcell⟩ := HK.out.open (show 0 < m by omega)
        obtain ⟨aj, cj, ⟨x0, x1, x2, x3⟩, _⟩ := hcell wr HF.out.1 j hlt
        obtain ⟨aj', cj', ⟨_, _, _, x3''⟩, hkj⟩ := hcell w0 (Below.refl _ _) j hlt
        have x0' : wr.cell? ⟨b, off + j * 4, none⟩ = some (.int .i64 (kid j).k) := x0
        have x1' : wr.cell? ⟨b, off + j * 4 + 1, none⟩ = some (.int .i64 (kid j).n) := x1
        have x2' : wr.cell? ⟨b, off + j * 4 + 2, none⟩ = some (.string (kid j).s) := x2
        have x3' : wr.cell? ⟨b, off + j * 4 + 3, none⟩ = some (.slice aj (kid j).m cj) := x3
        have hbl : b < w0.heap.size := blt_of_cell x3''
        have heq : (some (Value.slice aj (kid j).m cj)) = some (Value.slice aj' (kid j).m cj') := by rw [← x3', ← show w0.cell? ⟨b, off + j * 4 + 3, none⟩ = some (.slice aj' (kid j).m cj') from x3'']; exact HF.out.1.cell (p := ⟨b, off + j * 4 + 3, none⟩) hbl
        injection heq with heq
        injection heq with heq _ hcq
        subst heq hcq
        have HKJ : Hid (KidsAt w0 (kid j) aj) := Lib.hid hkj
        clear hcell hkj x0 x1 x2 x3 x3''
        have HBJ := Lib.hid (kbelow_box wr (.cells #[.int .i64 (kid j).k, .int .i64 (kid j).n, .string (kid j).s, .slice aj (kid j).m cj] 50))
        go_wp2_with fail
        refine (HIH.out j aj cj _ _ HKJ.out (HF.out.below HBJ.out)).mono ?_
        rintro e w9 ⟨rfl, hst9, hg9⟩
        have HST9 := Lib.hid hst9
        have HG9 := Lib.hid ((HG.out.trans (grown_of_below ub HBJ.out)).trans hg9)
        clear hst9 hg9 x0' x1' x2' x3'
        go_wp2_with fail
        go_roundw
        case rel => exact ⟨j + 1, by omega, by go_num, HST9.out.congr (fun q _ => by simp [anyN, Bool.or_assoc]), HG9.out⟩
        case measure => simp [intOf]; omega
      · have hjm : j = m := by omega
        subst hjm
        have HR : Hid (MSt w0 wr ab sb mb mm ub n g (fun q => u q || (Ex.mk k nn s j kid).hit g q)) := HF.out.congr (fun q _ => by rw [HM.out q])
        go_wp2_with fail
        go_ret
        exact ⟨rfl, HR.out, HG.out⟩
theorem lnth_take {l : List Ln} {p j : Nat} (h : j < p) : lnth (l.take p) j = lnth l j := by
  simp [lnth, List.getD_eq_getElem?_getD, h]
theorem lastN_congr {f h : Nat → ByteArray} : ∀ {n : Nat}, (∀ j, j < n → f j = h j) → lastN f n = lastN h n
  | 0, _ => rfl
  | n + 1, e => by
    funext s
    simp only [lastN]
    rw [e n (by omega), lastN_congr (n := n) (fun j hj => e j (by omega))]
theorem CameL.take {w : World} {a : Option Addr} {l : List Ln} (h : CameL w a l) {p : Nat} (hp : p ≤ l.length) : CameL w a (l.take p) := by
  rcases h with h | ⟨b, off, rfl, hB, h⟩
  · exact .inl (by simp [h])
  · refine .inr ⟨b, off, rfl, hB, fun j hj => ?_⟩
    have hj' : j < p := by simp at hj; omega
    rw [lnth_take hj']
    exact h j (by omega)
theorem lastN_lt {f : Nat → ByteArray} : ∀ {n : Nat} {s : ByteArray} {p : Nat}, lastN f n s = some p → p < n
  | 0, _, _, h => by cases h
  | n + 1, s, p, h => by
    simp only [lastN] at h
    split at h
    · injection h with h; omega
    · have := lastN_lt h; omega
end Go.Proofs.YtoingnhiipfnlaaDoor
