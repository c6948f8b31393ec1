/-
  Promise K3: the walk of Split.
-/
import Derived.Test.YtikkeidapgmcnaaUTimes
namespace Go.Proofs.Ytikkeidapgmcnaa
open Go.RowKit

theorem info_int : (Try.prog.info? 3).map (fun i => (i.zero, i.size, i.bytes)) = some (some (.int .i64 0), 1, 8) := by kernel_rfl
theorem make_ints (n : Nat) (h : n ≤ 1000000000) (w : World) :
    (Instr.makeSlice 22 (.int .i64 (n : Int)) (.int .i64 (n : Int))).run Try.prog w = .ok (.slice (some ⟨w.heap.size, 0, none⟩) n n) (w.alloc (.cells (madeCells #[.int .i64 0] n) 3)) := by
  obtain ⟨i0, hi, hz0, hz1, hz2⟩ := info_parts info_int
  have := run_make (P := Try.prog) w 22 3 i0 (.int .i64 0) Try.underlying22 hi hz0 .i64 .i64 n n (by omega) (by omega) (by rw [hz2]; omega) (by omega)
  simpa [hz1, Value.cells] using this
/-- A row that is filled from its beginning. -/
def fillTo (f : Nat → Int) (n : Nat) : Nat → List Int
  | 0 => List.replicate n 0
  | k + 1 => (fillTo f n k).set k (f k)
theorem fillTo_length (f : Nat → Int) (n k : Nat) : (fillTo f n k).length = n := by
  induction k with
  | zero => simp [fillTo]
  | succ k ih => simp [fillTo, ih]
theorem nth_fillTo (f : Nat → Int) (n k j : Nat) (hk : k ≤ n) : nth (fillTo f n k) j = if j < k then f j else 0 := by
  induction k with
  | zero => simp [fillTo, nth_replicate]
  | succ k ih =>
    rw [fillTo, nth_set (by rw [fillTo_length]; omega), ih (by omega)]
    by_cases h1 : j = k
    · subst h1; simp
    · rw [if_neg h1]
      by_cases h2 : j < k
      · rw [if_pos h2, if_pos (by omega)]
      · rw [if_neg h2, if_neg (by omega)]
/-- What is wrong with a week. -/
def splitE (l : List Int) (D W : Int) : Int := if 7 < l.length then 2 else if timesB l = false ∨ D < 0 ∨ 1440 < D ∨ W < 0 ∨ 10080 < W then 3 else 0
theorem splitE_many {l : List Int} {D W : Int} (h : 7 < l.length) : splitE l D W = 2 := by unfold splitE; rw [if_pos h]
theorem splitE_range {l : List Int} {D W : Int} (h : ¬ 7 < l.length) (h2 : timesB l = false ∨ D < 0 ∨ 1440 < D ∨ W < 0 ∨ 10080 < W) : splitE l D W = 3 := by unfold splitE; rw [if_neg h, if_pos h2]
theorem splitE_ok {l : List Int} {D W : Int} (h : ¬ 7 < l.length) (h2 : ¬ (timesB l = false ∨ D < 0 ∨ 1440 < D ∨ W < 0 ∨ 10080 < W)) : splitE l D W = 0 := by unfold splitE; rw [if_neg h, if_neg h2]
theorem splitE_zero {l : List Int} {D W : Int} (h : splitE l D W = 0) : l.length ≤ 7 ∧ timesB l = true ∧ 0 ≤ D ∧ D ≤ 1440 ∧ 0 ≤ W ∧ W ≤ 10080 := by
  unfold splitE at h
  by_cases h1 : 7 < l.length
  · rw [if_pos h1] at h; omega
  · rw [if_neg h1] at h
    by_cases h2 : timesB l = false ∨ D < 0 ∨ 1440 < D ∨ W < 0 ∨ 10080 < W
    · rw [if_pos h2] at h; omega
    · refine ⟨by omega, ?_, by omega, by omega, by omega, by omega⟩
      cases h3 : timesB l
      · exact absurd (.inl h3) h2
      · rfl
def usL (l : List Int) (D W : Int) (k : Nat) : List Int := fillTo (usu l D W) l.length k
def ovL (l : List Int) (D W : Int) (k : Nat) : List Int := fillTo (fun j => nth l j - usu l D W j) l.length k
/-- What Split answers. -/
def SplIs (w' : World) (l : List Int) (D W : Int) (u v : Value) (er : Int) : Prop :=
  er = splitE l D W ∧ ((splitE l D W ≠ 0 ∧ u = .slice none 0 0 ∧ v = .slice none 0 0) ∨ (splitE l D W = 0 ∧ ∃ g h, u = .slice (some ⟨g, 0, none⟩) l.length l.length ∧ v = .slice (some ⟨h, 0, none⟩) l.length l.length ∧ Own w' g (usL l D W l.length) ∧ Own w' h (ovL l D W l.length)))
def OBox (w : World) (g : Nat) (D W : Int) : Prop := w.cell? ⟨g, 0, none⟩ = some (.int .i64 D) ∧ w.cell? ⟨g, 1, none⟩ = some (.int .i64 W)
theorem OBox.below {w w' : World} {g : Nat} {D W : Int} (h : OBox w g D W) {B : Nat} (hb : Below B w w') (hB : g < B) : OBox w' g D W :=
  ⟨(hb.cell (p := ⟨g, 0, none⟩) hB).trans h.1, (hb.cell (p := ⟨g, 1, none⟩) hB).trans h.2⟩
theorem OBox.other {w : World} {g : Nat} {D W : Int} (h : OBox w g D W) {b : Nat} (hb : g ≠ b) (j : Nat) (v : Value) : OBox (w.setCell ⟨b, j, none⟩ v) g D W := by
  refine ⟨?_, ?_⟩
  · rw [World.cell?_setCell_other (w := w) (h := fun x => hb (congrArg Addr.block x).symm)]; exact h.1
  · rw [World.cell?_setCell_other (w := w) (h := fun x => hb (congrArg Addr.block x).symm)]; exact h.2
set_option maxRecDepth 100000 in
set_option maxHeartbeats 2000000 in
theorem Split_any (a : Option Addr) (n cap : Nat) (l : List Int) (D W : Int) (w : World) (hc : Came w a l) (hn : l.length = n) (hm : n ≤ maxLen) :
    Calls Try.prog 18 #[.slice a n cap, .agg #[.int .i64 D, .int .i64 W]] w fun e w' => ∃ (u v : Value) (er : Int), e = .returned (.tuple #[u, v, .int .i64 er]) ∧ SplIs w' l D W u v er ∧ Below w.heap.size w w' := by
  have hm' : n ≤ 9223372036854775807 := by unfold maxLen at hm; omega
  have HC := Lib.hid hc
  have HM := Lib.hid hm
  have HN := Lib.hid hn
  have HB0 := Lib.hid ((Below.refl w.heap.size w).alloc (Nat.le_refl _) (.cells #[.int .i64 D, .int .i64 W] 39))
  clear hm hc hn
  by_cases h7 : 7 < n
  · have HE := Lib.hid (splitE_many (l := l) (D := D) (W := W) (by rw [HN.out]; exact h7))
    have h7' : (7 : Int) < (n : Int) := by omega
    have HB := HB0
    go_enter Try.func18, Try.ntmps18
    go_wp2_with fail
    go_ret3
    exact ⟨_, _, _, rfl, ⟨HE.out.symm, .inl ⟨by rw [HE.out]; decide, rfl, rfl⟩⟩, HB.out⟩
  · have h7' : ¬ ((7 : Int) < (n : Int)) := by omega
    go_enter Try.func18, Try.ntmps18
    go_wp2_with fail
    refine (contains_any a n cap l _ (HC.out.below HB0.out) HN.out HM.out).mono ?_
    rintro e w1 ⟨rfl, hb1⟩
    have HB1 := Lib.hid (HB0.out.trans (hb1.mono HB0.out.size))
    have HX1 : Hid (OBox w1 w.heap.size D W) := OBox.below ⟨by simp, by simp⟩ hb1 (by simp)
    have hlt1 : w.heap.size < w1.heap.size := by have := hb1.size; simp at this; omega
    clear hb1
    obtain ⟨o0, o1⟩ := HX1.out
    cases hti : timesB l
    · have HE := Lib.hid (splitE_range (l := l) (D := D) (W := W) (by rw [HN.out]; exact h7) (.inl hti))
      have HB := HB1
      go_wp2_with fail
      go_ret3
      exact ⟨_, _, _, rfl, ⟨HE.out.symm, .inl ⟨by rw [HE.out]; decide, rfl, rfl⟩⟩, HB.out⟩
    · cases hDT : timeB D
      · have HE := Lib.hid (splitE_range (l := l) (D := D) (W := W) (by rw [HN.out]; exact h7) (.inr (by have := timeB_no.1 hDT; omega)))
        have HB := HB1
        go_wp2_with (go_at_call 24; refine (isNoTime_any _ _).mono ?_; rintro e w' ⟨rfl, h'⟩; subst w'; rw [hDT])
        go_wp2_with fail
        go_ret3
        exact ⟨_, _, _, rfl, ⟨HE.out.symm, .inl ⟨by rw [HE.out]; decide, rfl, rfl⟩⟩, HB.out⟩
      · obtain ⟨hD0, hD1⟩ := timeB_iff.1 hDT
        by_cases hW0 : W < 0
        · have HE := Lib.hid (splitE_range (l := l) (D := D) (W := W) (by rw [HN.out]; exact h7) (by omega))
          have HB := HB1
          go_wp2_with (go_at_call 24; refine (isNoTime_any _ _).mono ?_; rintro e w' ⟨rfl, h'⟩; subst w'; rw [hDT])
          go_wp2_with fail
          go_ret3
          exact ⟨_, _, _, rfl, ⟨HE.out.symm, .inl ⟨by rw [HE.out]; decide, rfl, rfl⟩⟩, HB.out⟩
        · by_cases hW1 : 10080 < W
          · have HE := Lib.hid (splitE_range (l := l) (D := D) (W := W) (by rw [HN.out]; exact h7) (by omega))
            have HB := HB1
            go_wp2_with (go_at_call 24; refine (isNoTime_any _ _).mono ?_; rintro e w' ⟨rfl, h'⟩; subst w'; rw [hDT])
            go_wp2_with fail
            go_ret3
            exact ⟨_, _, _, rfl, ⟨HE.out.symm, .inl ⟨by rw [HE.out]; decide, rfl, rfl⟩⟩, HB.out⟩
          · have HE := Lib.hid (splitE_ok (l := l) (D := D) (W := W) (by rw [HN.out]; exact h7) (by rw [hti]; simp; omega))
            have hmk := make_ints n (by omega)
            go_wp2_with (go_at_call 24; refine (isNoTime_any _ _).mono ?_; rintro e w' ⟨rfl, h'⟩; subst w'; rw [hDT])
            have HO := Lib.hid (fun h0 => (HC.out.below HB1.out).open HN.out h0)
            go_region
            · generalize hW1 : ((w1.alloc (.cells (madeCells #[.int .i64 0] n) 3)).alloc (.cells (madeCells #[.int .i64 0] n) 3)).drew = W1 at *
              obtain ⟨HG0, HH0, HBW, HXW⟩ : Hid (Own W1 (w1.heap.size) (List.replicate n 0)) ∧ Hid (Own W1 (w1.heap.size + 1) (List.replicate n 0)) ∧ Hid (Below w1.heap.size w1 W1) ∧ Hid (OBox W1 w.heap.size D W) := by
                subst hW1
                have q1 : Own ((w1.alloc (.cells (madeCells #[.int .i64 0] n) 3)).alloc (.cells (madeCells #[.int .i64 0] n) 3)) w1.heap.size (List.replicate n 0) := (Own.made w1 n _).alloc _
                have q2 : Own ((w1.alloc (.cells (madeCells #[.int .i64 0] n) 3)).alloc (.cells (madeCells #[.int .i64 0] n) 3)) (w1.heap.size + 1) (List.replicate n 0) := by
                  have := Own.made (w1.alloc (.cells (madeCells #[.int .i64 0] n) 3)) n 3
                  simpa using this
                have q3 : Below w1.heap.size w1 ((w1.alloc (.cells (madeCells #[.int .i64 0] n) 3)).alloc (.cells (madeCells #[.int .i64 0] n) 3)).drew := (((Below.refl w1.heap.size w1).alloc (Nat.le_refl _) _).alloc (by simp) _).drew
                exact ⟨by first | exact q1 | exact q2, by first | exact q2 | exact q1, q3, HX1.out.below q3 hlt1⟩
              clear hW1 hmk
              obtain ⟨o0, o1⟩ := HXW.out
              go_wp2_with fail
              go_loopw [9, 38] (fun lv iv wr => ∃ k : Nat, k ≤ n ∧ iv = .int .i64 k ∧ lv = .int .i64 (leftW l D W k) ∧ Own wr (w1.heap.size) (usL l D W k) ∧ Own wr (w1.heap.size + 1) (ovL l D W k) ∧ Below w1.heap.size w1 wr ∧ OBox wr w.heap.size D W) (fun _ iv _ => n - (intOf iv).toNat)
              case atStart =>
                have e1 : usL l D W 0 = List.replicate n 0 := by rw [← HN.out]; rfl
                have e2 : ovL l D W 0 = List.replicate n 0 := by rw [← HN.out]; rfl
                exact ⟨0, Nat.zero_le _, rfl, rfl, by rw [e1]; exact HG0.out, by rw [e2]; exact HH0.out, HBW.out, HXW.out⟩
              case round =>
                clear o0 o1 HG0 HH0 HBW HXW
                obtain ⟨k, hk, rfl, rfl, hp, hr, hb, hx⟩ := hrel
                have HR : Hid (Own wr (w1.heap.size) (usL l D W k) ∧ Own wr (w1.heap.size + 1) (ovL l D W k) ∧ Below w1.heap.size w1 wr ∧ OBox wr w.heap.size D W) := ⟨hp, hr, hb, hx⟩
                have hlb := leftW_bd (l := l) (d := D) (W := W) hD0 (by omega) (fun j hj => (timeB_iff.1 (timesB_nth hti hj)).1) k (by rw [HN.out]; exact hk)
                by_cases hlt : k < n
                · have hlt' : (k : Int) < (n : Int) := by omega
                  obtain ⟨b, off, rfl, hcell⟩ := HO.out (by omega)
                  have x0 := hcell _ hb k hlt
                  have hxk := timeB_iff.1 (timesB_nth hti (j := k) (by rw [HN.out]; exact hlt))
                  have hpl : k < (usL l D W k).length := by unfold usL; rw [fillTo_length, HN.out]; exact hlt
                  have hrl : k < (ovL l D W k).length := by unfold ovL; rw [fillTo_length, HN.out]; exact hlt
                  have c1 := hp.cell hpl
                  have f1 := hp.free hpl
                  have c2 := hr.cell hrl
                  have f2 := hr.free hrl
                  obtain ⟨o0, o1⟩ := hx
                  have HSL : Hid (leftW l D W (k + 1) = leftW l D W k - min (min (nth l k) D) (leftW l D W k)) := rfl
                  have HS1 : Hid (usL l D W (k + 1) = (usL l D W k).set k (min (min (nth l k) D) (leftW l D W k))) := rfl
                  have HS2 : Hid (ovL l D W (k + 1) = (ovL l D W k).set k (nth l k - min (min (nth l k) D) (leftW l D W k))) := rfl
                  clear hcell hp hr hb
                  generalize nth (usL l D W k) k = z1 at *
                  generalize nth (ovL l D W k) k = z2 at *
                  generalize nth l k = m at *
                  generalize leftW l D W k = L at *
                  by_cases h1 : D < m
                  · have hm1 : min m D = D := by omega
                    rw [hm1] at HSL HS1 HS2
                    by_cases h2 : L < D
                    · have hm2 : min D L = L := by omega
                      rw [hm2] at HSL HS1 HS2
                      clear hm1 hm2
                      go_wp2_with fail
                      go_roundw
                      case rel =>
                        obtain ⟨hp, hr, hb, hx⟩ := HR.out
                        exact ⟨k + 1, by omega, by go_num, uval (by rw [HSL.out]; try omega), by rw [HS1.out]; exact (hp.set hpl _).other (by omega) _ _, by rw [HS2.out]; exact (hr.other (by omega) _ _).set hrl _, (hb.setCell (show w1.heap.size ≤ w1.heap.size by omega) _).setCell (show w1.heap.size ≤ w1.heap.size + 1 by omega) _, (hx.other (by omega) _ _).other (by omega) _ _⟩
                      case measure => simp [intOf]; omega
                    · have hm2 : min D L = D := by omega
                      rw [hm2] at HSL HS1 HS2
                      clear hm1 hm2
                      go_wp2_with fail
                      go_roundw
                      case rel =>
                        obtain ⟨hp, hr, hb, hx⟩ := HR.out
                        exact ⟨k + 1, by omega, by go_num, uval (by rw [HSL.out]; try omega), by rw [HS1.out]; exact (hp.set hpl _).other (by omega) _ _, by rw [HS2.out]; exact (hr.other (by omega) _ _).set hrl _, (hb.setCell (show w1.heap.size ≤ w1.heap.size by omega) _).setCell (show w1.heap.size ≤ w1.heap.size + 1 by omega) _, (hx.other (by omega) _ _).other (by omega) _ _⟩
                      case measure => simp [intOf]; omega
                  · have hm1 : min m D = m := by omega
                    rw [hm1] at HSL HS1 HS2
                    by_cases h2 : L < m
                    · have hm2 : min m L = L := by omega
                      rw [hm2] at HSL HS1 HS2
                      clear hm1 hm2
                      go_wp2_with fail
                      go_roundw
                      case rel =>
                        obtain ⟨hp, hr, hb, hx⟩ := HR.out
                        exact ⟨k + 1, by omega, by go_num, uval (by rw [HSL.out]; try omega), by rw [HS1.out]; exact (hp.set hpl _).other (by omega) _ _, by rw [HS2.out]; exact (hr.other (by omega) _ _).set hrl _, (hb.setCell (show w1.heap.size ≤ w1.heap.size by omega) _).setCell (show w1.heap.size ≤ w1.heap.size + 1 by omega) _, (hx.other (by omega) _ _).other (by omega) _ _⟩
                      case measure => simp [intOf]; omega
                    · have hm2 : min m L = m := by omega
                      rw [hm2] at HSL HS1 HS2
                      rw [Int.sub_self] at HS2
                      clear hm1 hm2
                      go_wp2_with fail
                      go_roundw
                      case rel =>
                        obtain ⟨hp, hr, hb, hx⟩ := HR.out
                        exact ⟨k + 1, by omega, by go_num, uval (by rw [HSL.out]; try omega), by rw [HS1.out]; exact (hp.set hpl _).other (by omega) _ _, by rw [HS2.out]; exact (hr.other (by omega) _ _).set hrl _, (hb.setCell (show w1.heap.size ≤ w1.heap.size by omega) _).setCell (show w1.heap.size ≤ w1.heap.size + 1 by omega) _, (hx.other (by omega) _ _).other (by omega) _ _⟩
                      case measure => simp [intOf]; omega
                · obtain rfl : k = n := by omega
                  go_wp2_with fail
                  go_ret3
                  obtain ⟨hp, hr, hb, hx⟩ := HR.out
                  exact ⟨.slice (some ⟨w1.heap.size, 0, none⟩) k k, .slice (some ⟨w1.heap.size + 1, 0, none⟩) k k, 0, rfl, ⟨HE.out.symm, .inr ⟨HE.out, w1.heap.size, w1.heap.size + 1, by rw [HN.out], by rw [HN.out], by rw [HN.out]; exact hp, by rw [HN.out]; exact hr⟩⟩, HB1.out.trans (hb.mono HB1.out.size)⟩
            · generalize hW1 : ((w1.alloc (.cells (madeCells #[.int .i64 0] n) 3)).alloc (.cells (madeCells #[.int .i64 0] n) 3)).drew = W1 at *
              obtain ⟨HG0, HH0, HBW, HXW⟩ : Hid (Own W1 (w1.heap.size + 1) (List.replicate n 0)) ∧ Hid (Own W1 (w1.heap.size) (List.replicate n 0)) ∧ Hid (Below w1.heap.size w1 W1) ∧ Hid (OBox W1 w.heap.size D W) := by
                subst hW1
                have q1 : Own ((w1.alloc (.cells (madeCells #[.int .i64 0] n) 3)).alloc (.cells (madeCells #[.int .i64 0] n) 3)) w1.heap.size (List.replicate n 0) := (Own.made w1 n _).alloc _
                have q2 : Own ((w1.alloc (.cells (madeCells #[.int .i64 0] n) 3)).alloc (.cells (madeCells #[.int .i64 0] n) 3)) (w1.heap.size + 1) (List.replicate n 0) := by
                  have := Own.made (w1.alloc (.cells (madeCells #[.int .i64 0] n) 3)) n 3
                  simpa using this
                have q3 : Below w1.heap.size w1 ((w1.alloc (.cells (madeCells #[.int .i64 0] n) 3)).alloc (.cells (madeCells #[.int .i64 0] n) 3)).drew := (((Below.refl w1.heap.size w1).alloc (Nat.le_refl _) _).alloc (by simp) _).drew
                exact ⟨by first | exact q1 | exact q2, by first | exact q2 | exact q1, q3, HX1.out.below q3 hlt1⟩
              clear hW1 hmk
              obtain ⟨o0, o1⟩ := HXW.out
              go_wp2_with fail
              go_loopw [9, 38] (fun lv iv wr => ∃ k : Nat, k ≤ n ∧ iv = .int .i64 k ∧ lv = .int .i64 (leftW l D W k) ∧ Own wr (w1.heap.size + 1) (usL l D W k) ∧ Own wr (w1.heap.size) (ovL l D W k) ∧ Below w1.heap.size w1 wr ∧ OBox wr w.heap.size D W) (fun _ iv _ => n - (intOf iv).toNat)
              case atStart =>
                have e1 : usL l D W 0 = List.replicate n 0 := by rw [← HN.out]; rfl
                have e2 : ovL l D W 0 = List.replicate n 0 := by rw [← HN.out]; rfl
                exact ⟨0, Nat.zero_le _, rfl, rfl, by rw [e1]; exact HG0.out, by rw [e2]; exact HH0.out, HBW.out, HXW.out⟩
              case round =>
                clear o0 o1 HG0 HH0 HBW HXW
                obtain ⟨k, hk, rfl, rfl, hp, hr, hb, hx⟩ := hrel
                have HR : Hid (Own wr (w1.heap.size + 1) (usL l D W k) ∧ Own wr (w1.heap.size) (ovL l D W k) ∧ Below w1.heap.size w1 wr ∧ OBox wr w.heap.size D W) := ⟨hp, hr, hb, hx⟩
                have hlb := leftW_bd (l := l) (d := D) (W := W) hD0 (by omega) (fun j hj => (timeB_iff.1 (timesB_nth hti hj)).1) k (by rw [HN.out]; exact hk)
                by_cases hlt : k < n
                · have hlt' : (k : Int) < (n : Int) := by omega
                  obtain ⟨b, off, rfl, hcell⟩ := HO.out (by omega)
                  have x0 := hcell _ hb k hlt
                  have hxk := timeB_iff.1 (timesB_nth hti (j := k) (by rw [HN.out]; exact hlt))
                  have hpl : k < (usL l D W k).length := by unfold usL; rw [fillTo_length, HN.out]; exact hlt
                  have hrl : k < (ovL l D W k).length := by unfold ovL; rw [fillTo_length, HN.out]; exact hlt
                  have c1 := hp.cell hpl
                  have f1 := hp.free hpl
                  have c2 := hr.cell hrl
                  have f2 := hr.free hrl
                  obtain ⟨o0, o1⟩ := hx
                  have HSL : Hid (leftW l D W (k + 1) = leftW l D W k - min (min (nth l k) D) (leftW l D W k)) := rfl
                  have HS1 : Hid (usL l D W (k + 1) = (usL l D W k).set k (min (min (nth l k) D) (leftW l D W k))) := rfl
                  have HS2 : Hid (ovL l D W (k + 1) = (ovL l D W k).set k (nth l k - min (min (nth l k) D) (leftW l D W k))) := rfl
                  clear hcell hp hr hb
                  generalize nth (usL l D W k) k = z1 at *
                  generalize nth (ovL l D W k) k = z2 at *
                  generalize nth l k = m at *
                  generalize leftW l D W k = L at *
                  by_cases h1 : D < m
                  · have hm1 : min m D = D := by omega
                    rw [hm1] at HSL HS1 HS2
                    by_cases h2 : L < D
                    · have hm2 : min D L = L := by omega
                      rw [hm2] at HSL HS1 HS2
                      clear hm1 hm2
                      go_wp2_with fail
                      go_roundw
                      case rel =>
                        obtain ⟨hp, hr, hb, hx⟩ := HR.out
                        exact ⟨k + 1, by omega, by go_num, uval (by rw [HSL.out]; try omega), by rw [HS1.out]; exact (hp.set hpl _).other (by omega) _ _, by rw [HS2.out]; exact (hr.other (by omega) _ _).set hrl _, (hb.setCell (show w1.heap.size ≤ w1.heap.size + 1 by omega) _).setCell (show w1.heap.size ≤ w1.heap.size by omega) _, (hx.other (by omega) _ _).other (by omega) _ _⟩
                      case measure => simp [intOf]; omega
                    · have hm2 : min D L = D := by omega
                      rw [hm2] at HSL HS1 HS2
                      clear hm1 hm2
                      go_wp2_with fail
                      go_roundw
                      case rel =>
                        obtain ⟨hp, hr, hb, hx⟩ := HR.out
                        exact ⟨k + 1, by omega, by go_num, uval (by rw [HSL.out]; try omega), by rw [HS1.out]; exact (hp.set hpl _).other (by omega) _ _, by rw [HS2.out]; exact (hr.other (by omega) _ _).set hrl _, (hb.setCell (show w1.heap.size ≤ w1.heap.size + 1 by omega) _).setCell (show w1.heap.size ≤ w1.heap.size by omega) _, (hx.other (by omega) _ _).other (by omega) _ _⟩
                      case measure => simp [intOf]; omega
                  · have hm1 : min m D = m := by omega
                    rw [hm1] at HSL HS1 HS2
                    by_cases h2 : L < m
                    · have hm2 : min m L = L := by omega
                      rw [hm2] at HSL HS1 HS2
                      clear hm1 hm2
                      go_wp2_with fail
                      go_roundw
                      case rel =>
                        obtain ⟨hp, hr, hb, hx⟩ := HR.out
                        exact ⟨k + 1, by omega, by go_num, uval (by rw [HSL.out]; try omega), by rw [HS1.out]; exact (hp.set hpl _).other (by omega) _ _, by rw [HS2.out]; exact (hr.other (by omega) _ _).set hrl _, (hb.setCell (show w1.heap.size ≤ w1.heap.size + 1 by omega) _).setCell (show w1.heap.size ≤ w1.heap.size by omega) _, (hx.other (by omega) _ _).other (by omega) _ _⟩
                      case measure => simp [intOf]; omega
                    · have hm2 : min m L = m := by omega
                      rw [hm2] at HSL HS1 HS2
                      rw [Int.sub_self] at HS2
                      clear hm1 hm2
                      go_wp2_with fail
                      go_roundw
                      case rel =>
                        obtain ⟨hp, hr, hb, hx⟩ := HR.out
                        exact ⟨k + 1, by omega, by go_num, uval (by rw [HSL.out]; try omega), by rw [HS1.out]; exact (hp.set hpl _).other (by omega) _ _, by rw [HS2.out]; exact (hr.other (by omega) _ _).set hrl _, (hb.setCell (show w1.heap.size ≤ w1.heap.size + 1 by omega) _).setCell (show w1.heap.size ≤ w1.heap.size by omega) _, (hx.other (by omega) _ _).other (by omega) _ _⟩
                      case measure => simp [intOf]; omega
                · obtain rfl : k = n := by omega
                  go_wp2_with fail
                  go_ret3
                  obtain ⟨hp, hr, hb, hx⟩ := HR.out
                  exact ⟨.slice (some ⟨w1.heap.size + 1, 0, none⟩) k k, .slice (some ⟨w1.heap.size, 0, none⟩) k k, 0, rfl, ⟨HE.out.symm, .inr ⟨HE.out, w1.heap.size + 1, w1.heap.size, by rw [HN.out], by rw [HN.out], by rw [HN.out]; exact hp, by rw [HN.out]; exact hr⟩⟩, HB1.out.trans (hb.mono HB1.out.size)⟩
end Go.Proofs.Ytikkeidapgmcnaa
