/-
  The walk of the law LedgerTurns: it answers true at every input.
-/
import Derived.Test.YtjhmnnhmekljgaaQTurnR
namespace Go.Proofs.Ytjhmnnhmekljgaa
open Go.RowKit

theorem psAt_set {w : World} {x : Option Addr} {l : List Am} {p : Addr} (h : PsAt w x l) (hr : l.length = 0 ∨ ∃ b off, x = some ⟨b, off, none⟩ ∧ p.block ≠ b) (v : Value) : PsAt (w.setCell p v) x l := by
  refine ⟨?_, h.2⟩
  rcases h.1 with h1 | ⟨b, off, e, hat⟩
  · exact .inl h1
  · rcases hr with h1 | ⟨b', off', e', hne⟩
    · exact .inl h1
    · rw [e] at e'
      cases e'
      refine .inr ⟨b, off, e, by simpa using hat.1, fun i hi => ⟨?_, ?_⟩⟩
      · rw [World.cell?_setCell_other (h := fun e => hne (by rw [e]))]; exact (hat.2 i hi).1
      · rw [World.cell?_setCell_other (h := fun e => hne (by rw [e]))]; exact (hat.2 i hi).2
theorem psAt_low {w : World} {x : Option Addr} {l : List Am} (h : PsAt w x l) {n : Nat} (hn : w.heap.size ≤ n) : l.length = 0 ∨ ∃ b off, x = some ⟨b, off, none⟩ ∧ n ≠ b := by
  rcases h.1 with h1 | ⟨b, off, e, hat⟩
  · exact .inl h1
  · exact .inr ⟨b, off, e, by have := hat.1; omega⟩
set_option maxRecDepth 100000 in
set_option maxHeartbeats 4000000 in
theorem walk_ledgerTurns (r : En) (ax : Option Addr) (cx : Nat) {w : World} (hp : PsAt w ax r.ps) (_ : (Lit.int .i64 r.day).wf = true) :
    Calls Try.prog 5 #[.agg #[.int .i64 r.day, .slice ax r.ps.length cx]] w fun e w' => e = .returned (.bool true) ∧ Go.RowKit.Below w.heap.size w w' := by
  obtain ⟨d, ps⟩ := r
  obtain ⟨m, hm⟩ : ∃ m, ps.length = m := ⟨_, rfl⟩
  have HP := Lib.hid hp
  have HM := Lib.hid hm
  clear hp
  show Calls Try.prog 5 #[.agg #[.int .i64 d, .slice ax ps.length cx]] w _
  rw [hm]
  clear hm
  go_enter Try.func5, Try.ntmps5
  go_wp2_with fail
  have HX0 := Lib.hid (Bx.made w (.int .i64 d) (.slice ax m cx) 29)
  have HB0 := Lib.hid (kbelow_box w (.cells #[.int .i64 d, .slice ax m cx] 29))
  have HP0 := Lib.hid (HP.out.below HB0.out)
  have hs0 : w.heap.size < (w.alloc (.cells #[.int .i64 d, .slice ax m cx] 29)).heap.size := by simp
  generalize (w.alloc (.cells #[.int .i64 d, .slice ax m cx] 29)) = W0 at *
  refine (Turn_any d ax m cx ps _ HP0.out HM.out).mono ?_
  rintro e w1 ⟨hne, heq, hb1⟩
  have HB1 := Lib.hid (HB0.out.trans (hb1.mono HB0.out.size))
  have HX1 := Lib.hid (HX0.out.below hb1 hs0)
  have HP1 := Lib.hid (HP0.out.below hb1)
  have HS1 : Hid (w.heap.size < w1.heap.size) := Lib.hid (Nat.lt_of_lt_of_le hs0 hb1.size)
  clear hb1 hs0
  by_cases h0 : enE ⟨d, ps⟩ = 0
  · obtain ⟨x, c, rfl, hpx⟩ := heq h0
    have H0 := Lib.hid h0
    have HPX := Lib.hid hpx
    clear hne heq h0 hpx
    have HX2 := Lib.hid (HX1.out.below (kbelow_box w1 (.cells #[.int .i64 d, .slice x m c] 29)) HS1.out)
    have HY2 := Lib.hid (Bx.made w1 (.int .i64 d) (.slice x m c) 29)
    have HB2 := Lib.hid (HB1.out.alloc (Nat.le_of_lt HS1.out) (.cells #[.int .i64 d, .slice x m c] 29))
    have HP2 := Lib.hid (HP1.out.below (kbelow_box w1 (.cells #[.int .i64 d, .slice x m c] 29)))
    have HQ2 := Lib.hid (HPX.out.below (kbelow_box w1 (.cells #[.int .i64 d, .slice x m c] 29)))
    have HS2 : Hid (w1.heap.size < (w1.alloc (.cells #[.int .i64 d, .slice x m c] 29)).heap.size) := Lib.hid (by simp)
    obtain ⟨x0, x1, -, -⟩ := HX2.out
    go_wp2_with fail
    generalize (w1.alloc (.cells #[.int .i64 d, .slice x m c] 29)) = W2 at *
    clear x0 x1
    refine (wrongEntry_ref d ax m cx ps _ HP2.out HM.out).mono ?_
    rintro e w3 ⟨rfl, hb3⟩
    rw [H0.out]
    have HS2' : Hid (w.heap.size < W2.heap.size) := Lib.hid (by have := HS1.out; have := HS2.out; omega)
    have hb3' := hb3.trans ((kbelow_box w3 (.cells #[.int .i64 0, .slice none 0 0] 29)).mono hb3.size)
    have HX3 := Lib.hid (HX2.out.below hb3' HS2'.out)
    have HY3 := Lib.hid (HY2.out.below hb3' HS2.out)
    have HW3 := Lib.hid (Bx.made w3 (.int .i64 0) (.slice none 0 0) 29)
    have HB3 := Lib.hid (HB2.out.trans (hb3'.mono HB2.out.size))
    have HP3 := Lib.hid (HP2.out.below hb3')
    have HQ3 := Lib.hid (HQ2.out.below hb3')
    have HS3 : Hid (w1.heap.size < w3.heap.size) := Lib.hid (Nat.lt_of_lt_of_le HS2.out hb3.size)
    have HS3' : Hid (w3.heap.size < (w3.alloc (.cells #[.int .i64 0, .slice none 0 0] 29)).heap.size) := Lib.hid (by simp)
    clear hb3 hb3'
    obtain ⟨x0, x1, -, -⟩ := HX3.out
    go_wp2_with fail
    generalize (w3.alloc (.cells #[.int .i64 0, .slice none 0 0] 29)) = W3 at *
    clear x0 x1
    refine (turnOf_any d ax m cx ps _ HP3.out HM.out (by rw [← HM.out]; exact (enE_ok H0.out).2.2.1) (mon_bd (enE_ok H0.out).2.2.2.2.1)).mono ?_
    rintro e w4 ⟨y, c2, rfl, hpy, hhi, hb4⟩
    have HY4 := Lib.hid (HY3.out.below hb4 (by have := HS3.out; have := HS3'.out; omega))
    have HW4 := Lib.hid (HW3.out.below hb4 HS3'.out)
    have HB4 := Lib.hid (HB3.out.trans (hb4.mono HB3.out.size))
    have HQ4 := Lib.hid (HQ3.out.below hb4)
    have HPY := Lib.hid hpy
    have HS4 : Hid (w3.heap.size < w4.heap.size) := Lib.hid (Nat.lt_of_lt_of_le HS3'.out hb4.size)
    obtain ⟨z0, z1, z2, z3⟩ := HW4.out
    have HLX := Lib.hid (psAt_low HPX.out (Nat.le_of_lt HS3.out))
    have HLY : Hid ((neg ps).length = 0 ∨ ∃ b off, y = some ⟨b, off, none⟩ ∧ w3.heap.size ≠ b) := by
      rcases hhi with h | ⟨b, off, e, h⟩
      · exact .inl (by rw [neg_len]; exact h)
      · exact .inr ⟨b, off, e, by have := HS3'.out; omega⟩
    clear hpy hb4 hhi
    go_wp2_with fail
    have HYF := Lib.hid ((HY4.out.other (p := ⟨w3.heap.size, 0, none⟩) (by have := HS3.out; show w3.heap.size ≠ w1.heap.size; omega) (.int .i64 d)).other (p := ⟨w3.heap.size, 1, none⟩) (by have := HS3.out; show w3.heap.size ≠ w1.heap.size; omega) (.slice y m c2))
    have HWF := Lib.hid ((HW4.out.set0 (.int .i64 d)).set (.slice y m c2))
    have HXF := Lib.hid (psAt_set (p := ⟨w3.heap.size, 1, none⟩) (psAt_set (p := ⟨w3.heap.size, 0, none⟩) HQ4.out HLX.out (.int .i64 d)) HLX.out (.slice y m c2))
    have HYP := Lib.hid (psAt_set (p := ⟨w3.heap.size, 1, none⟩) (psAt_set (p := ⟨w3.heap.size, 0, none⟩) HPY.out HLY.out (.int .i64 d)) HLY.out (.slice y m c2))
    have hle : w.heap.size ≤ w3.heap.size := by have := HS1.out; have := HS3.out; omega
    have HBF := Lib.hid ((HB4.out.setCell (p := ⟨w3.heap.size, 0, none⟩) hle (.int .i64 d)).setCell (p := ⟨w3.heap.size, 1, none⟩) hle (.slice y m c2))
    have HSF : Hid (w3.heap.size < ((w4.setCell ⟨w3.heap.size, 0, none⟩ (.int .i64 d)).setCell ⟨w3.heap.size, 1, none⟩ (.slice y m c2)).heap.size) := Lib.hid (by simpa using HS4.out)
    generalize (w4.setCell ⟨w3.heap.size, 0, none⟩ (.int .i64 d)).setCell ⟨w3.heap.size, 1, none⟩ (.slice y m c2) = W5 at *
    clear z0 z1 z2 z3
    refine (ledgerBegun_any _).mono ?_
    rintro e w6 ⟨rfl, hb6⟩
    have HB6 := Lib.hid (HBF.out.trans (hb6.mono HBF.out.size))
    have HX6 := Lib.hid (HXF.out.below hb6)
    have HY6 := Lib.hid (HYP.out.below hb6)
    obtain ⟨y0, y1, -, -⟩ := HYF.out.below hb6 (by have := HS3.out; have := HSF.out; omega)
    obtain ⟨z0, z1, -, -⟩ := HWF.out.below hb6 HSF.out
    clear hb6
    go_wp2_with fail
    refine (sameEntry_yes d x y m c c2 (neg ps) _ HX6.out HY6.out (by rw [neg_len]; exact HM.out)).mono ?_
    rintro e w7 ⟨rfl, hb7⟩
    have HB7 := Lib.hid (HB6.out.trans (hb7.mono HB6.out.size))
    clear hb7
    go_wp2_with fail
    go_ret
    exact ⟨kret_bool (by first | rfl | simp), HB7.out⟩
  · obtain rfl := hne h0
    obtain ⟨cc, hcc⟩ : ∃ c, enE ⟨d, ps⟩ = c := ⟨_, rfl⟩
    have H0 := Lib.hid hcc
    rw [hcc] at h0 ⊢
    have h0' : (cc == 0) = false := by simpa using h0
    have HPX : Hid (PsAt w1 none []) := ⟨.inl rfl, fun j hj => by simp at hj, Nat.zero_le _⟩
    clear hne heq hcc
    have HX2 := Lib.hid (HX1.out.below (kbelow_box w1 (.cells #[.int .i64 0, .slice none 0 0] 29)) HS1.out)
    have HY2 := Lib.hid (Bx.made w1 (.int .i64 0) (.slice none 0 0) 29)
    have HB2 := Lib.hid (HB1.out.alloc (Nat.le_of_lt HS1.out) (.cells #[.int .i64 0, .slice none 0 0] 29))
    have HP2 := Lib.hid (HP1.out.below (kbelow_box w1 (.cells #[.int .i64 0, .slice none 0 0] 29)))
    have HQ2 := Lib.hid (HPX.out.below (kbelow_box w1 (.cells #[.int .i64 0, .slice none 0 0] 29)))
    have HS2 : Hid (w1.heap.size < (w1.alloc (.cells #[.int .i64 0, .slice none 0 0] 29)).heap.size) := Lib.hid (by simp)
    obtain ⟨x0, x1, -, -⟩ := HX2.out
    go_wp2_with fail
    generalize (w1.alloc (.cells #[.int .i64 0, .slice none 0 0] 29)) = W2 at *
    clear x0 x1
    refine (wrongEntry_ref d ax m cx ps _ HP2.out HM.out).mono ?_
    rintro e w3 ⟨rfl, hb3⟩
    rw [H0.out]
    have HS2' : Hid (w.heap.size < W2.heap.size) := Lib.hid (by have := HS1.out; have := HS2.out; omega)
    have hb3' := hb3.trans ((kbelow_box w3 (.cells #[.int .i64 0, .slice none 0 0] 29)).mono hb3.size)
    have HX3 := Lib.hid (HX2.out.below hb3' HS2'.out)
    have HY3 := Lib.hid (HY2.out.below hb3' HS2.out)
    have HW3 := Lib.hid (Bx.made w3 (.int .i64 0) (.slice none 0 0) 29)
    have HB3 := Lib.hid (HB2.out.trans (hb3'.mono HB2.out.size))
    have HP3 := Lib.hid (HP2.out.below hb3')
    have HQ3 := Lib.hid (HQ2.out.below hb3')
    have HS3 : Hid (w1.heap.size < w3.heap.size) := Lib.hid (Nat.lt_of_lt_of_le HS2.out hb3.size)
    have HS3' : Hid (w3.heap.size < (w3.alloc (.cells #[.int .i64 0, .slice none 0 0] 29)).heap.size) := Lib.hid (by simp)
    clear hb3 hb3'
    obtain ⟨x0, x1, -, -⟩ := HX3.out
    clear x0 x1
    go_wp2_with fail
    generalize (w3.alloc (.cells #[.int .i64 0, .slice none 0 0] 29)) = W3 at *
    refine (ledgerBegun_any _).mono ?_
    rintro e w6 ⟨rfl, hb6⟩
    have HB6 := Lib.hid (HB3.out.trans (hb6.mono HB3.out.size))
    have HX6 := Lib.hid (HQ3.out.below hb6)
    obtain ⟨y0, y1, -, -⟩ := HY3.out.below hb6 (by have := HS3.out; have := HS3'.out; omega)
    obtain ⟨z0, z1, -, -⟩ := HW3.out.below hb6 HS3'.out
    clear hb6
    go_wp2_with fail
    refine (sameEntry_yes 0 none none 0 0 0 [] _ HX6.out HX6.out rfl).mono ?_
    rintro e w7 ⟨rfl, hb7⟩
    have HB7 := Lib.hid (HB6.out.trans (hb7.mono HB6.out.size))
    clear hb7
    go_wp2_with fail
    go_ret
    exact ⟨kret_bool (by first | rfl | simp), HB7.out⟩
end Go.Proofs.Ytjhmnnhmekljgaa
