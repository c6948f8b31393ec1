/-
  Promise S1: the walk of a store's reading of its head, on a disk in order.
-/
import Derived.Test.YtdnngcibmkdhhaaStPu
set_option linter.unusedSimpArgs false
namespace Go.Proofs.Ytdnngcibmkdhhaa
open Go.RowKit

theorem StAt.below {w w' : World} {q b B : Nat} {o : Bool} (h : StAt w q b o) (hb : Below B w w') (hq : q < B) : StAt w' q b o :=
  ⟨(hb.cell (p := ⟨q, 0, none⟩) hq).trans h.1, (hb.cell (p := ⟨q, 1, none⟩) hq).trans h.2.1, (hb.frozen (p := ⟨q, 1, none⟩) hq).trans h.2.2⟩
theorem StAt.lt {w : World} {q b : Nat} {o : Bool} (h : StAt w q b o) : q < w.heap.size := blt_of_cell h.1
theorem read_ok {D : Dk} {i : Nat} (hg : GS D.secs) (ho : D.off = false) (hi : i < D.secs.length) : srE D i = 0 ∧ srT D i = dnth D.secs i := by
  have h1 : rdE D i = 0 := by
    unfold rdE
    rw [ho, if_neg (by decide), if_pos ⟨by omega, by omega⟩]
  have h2 : rdT D i = dnth D.secs i := by
    unfold rdT
    rw [if_pos h1]
    rfl
  have h3 : srE D i = 0 := by
    unfold srE
    rw [if_pos h1, h2, if_pos (hg.2.1 i hi)]
  exact ⟨h3, by unfold srT; rw [if_pos h3, h2]⟩
theorem sread_any (q b : Nat) (x : Option Addr) (c : Nat) (D : Dk) (o : Bool) (i : Nat) (w : World) (h : DkAt w b x c D) (hs : StAt w q b o) (hg : GS D.secs) (ho : D.off = false) (hi : i < D.secs.length) :
    Calls Try.prog 22 #[.pointer (some ⟨q, 0, none⟩), .int .i64 (i : Int)] w fun e w' => e = .returned (.tuple #[.string (dnth D.secs i), .int .i64 0]) ∧ w' = w := by
  have := storeRead_any q b x c D o (i : Int) w h hs (by have := hg.1.2; omega)
  rw [(read_ok hg ho hi).1, (read_ok hg ho hi).2] at this
  exact this
set_option maxRecDepth 100000 in
set_option maxHeartbeats 1000000 in
theorem head_any (q b : Nat) (x : Option Addr) (c : Nat) (D : Dk) (o : Bool) (w : World) (h : DkAt w b x c D) (hs : StAt w q b o) (hg : GS D.secs) (ho : D.off = false) :
    Calls Try.prog 16 #[.pointer (some ⟨q, 0, none⟩)] w fun e w' => e = .returned (.tuple #[.agg #[.int .i64 (hdH (dnth D.secs 0) : Int), .int .i64 (hdL (dnth D.secs 0) : Int)], .int .i64 0]) ∧ Below w.heap.size w w' := by
  have HB := Lib.hid (kbelow_box w (.cells #[.int .i64 0, .int .i64 0] 48))
  have hs1 := hs.below HB.out hs.lt
  have HR := Lib.hid (sread_any q b x c D o 0 _ (h.below HB.out) hs1 hg ho (by have := hg.1.1; omega))
  have HH := Lib.hid (fun w => headOf_any (dnth D.secs 0) w (hg.2.1 0 (by have := hg.1.1; omega)))
  rw [hg.2.2] at HH
  generalize hdH (dnth D.secs 0) = H at *
  generalize hdL (dnth D.secs 0) = L at *
  generalize dnth D.secs 0 = t at *
  have r0 := two_of w (.int .i64 0) (.int .i64 0) 48
  have r1 := two_fr w (.int .i64 0) (.int .i64 0) 48
  clear h hs hs1 hg ho
  go_enter Try.func16, Try.ntmps16
  go_wp2_with fail
  refine HR.out.mono ?_
  rintro e w1 ⟨rfl, h'⟩
  subst w1
  go_wp2_with fail
  refine (HH.out _).mono ?_
  intro e w1 hr
  obtain ⟨hb, h2⟩ := hr
  obtain ⟨_, rfl⟩ : True ∧ e = .returned (.tuple #[.agg #[.int .i64 (H : Int), .int .i64 (L : Int)], .int .i64 0]) := by
    rcases h2 with ⟨_, h⟩ | ⟨h, _⟩
    · exact ⟨trivial, h⟩
    · cases h
  have HB1 := Lib.hid (HB.out.trans (hb.mono HB.out.size))
  have y0 := (hb.cell (p := ⟨w.heap.size, 0, none⟩) (by simp)).trans r0.1
  have y1 := (hb.cell (p := ⟨w.heap.size, 1, none⟩) (by simp)).trans r0.2
  have f0 := (hb.frozen (p := ⟨w.heap.size, 0, none⟩) (by simp)).trans r1.1
  have f1 := (hb.frozen (p := ⟨w.heap.size, 1, none⟩) (by simp)).trans r1.2
  clear hb r0 r1 h2
  go_wp2_with fail
  obtain ⟨q0, q1⟩ := put2 (.int .i64 (H : Int)) (.int .i64 (L : Int)) y0 y1
  refine bodyPost_ret (v := .tuple #[.agg #[.int .i64 (H : Int), .int .i64 (L : Int)], .int .i64 0]) (by simp [results, Try.results16, go_sem, q0, q1] <;> rfl) rfl ?_
  exact ⟨rfl, (HB1.out.setCell (p := ⟨w.heap.size, 0, none⟩) (Nat.le_refl _) _).setCell (p := ⟨w.heap.size, 1, none⟩) (Nat.le_refl _) _⟩
end Go.Proofs.Ytdnngcibmkdhhaa
