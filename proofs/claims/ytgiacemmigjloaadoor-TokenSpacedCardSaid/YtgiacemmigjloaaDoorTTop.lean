/-
  Promise E1, E2: the walk of Split; what must be in any case (tokenBegun).
-/
import Derived.Test.YtgiacemmigjloaaDoorTSplit
namespace Go.Proofs.YtgiacemmigjloaaDoor
open Go.RowKit

/-- What Split answers. -/
def TopIs (w' : World) (B : Nat) (s : ByteArray) (v : Value) (e at' : Int) : Prop :=
  (4000 < s.size ∧ v = .slice none 0 0 ∧ e = 2 ∧ at' = 0) ∨ (s.size ≤ 4000 ∧ SplitIs w' B s v e at')
theorem GrowT.mono {w : World} {B B' : Nat} {v : Value} {l : List Tk} (h : GrowT w B v l) (hB : B' ≤ B) : GrowT w B' v l := by
  refine ⟨h.1, ?_⟩
  rcases h.2 with hn | ⟨g, cap, cur, h1, h2, rest⟩
  · exact .inl hn
  · exact .inr ⟨g, cap, cur, h1, Nat.le_trans hB h2, rest⟩
theorem SplitIs.grow {w w' : World} {B B' : Nat} {s : ByteArray} {v : Value} {e at' : Int} (h : SplitIs w B' s v e at') (hb : Below w.heap.size w w') (hB : B ≤ B') : SplitIs w' B s v e at' := by
  rcases h with ⟨L, h1, h2, h3⟩ | h
  · exact .inl ⟨L, h1, (h2.below hb).mono hB, h3⟩
  · exact .inr h
/-- A list of tokens that Split handed out, or none. -/
theorem SplitIs.slice {w : World} {B : Nat} {s : ByteArray} {v : Value} {e at' : Int} (h : SplitIs w B s v e at') : ∃ x n c, v = .slice x n c := by
  rcases h with ⟨L, h1, h2, h3⟩ | ⟨_, _, _, _, _, _, h, _⟩
  · obtain ⟨x, c, h⟩ := h2.slice
    exact ⟨x, _, c, h⟩
  · exact ⟨_, _, _, h⟩
theorem fault_put {w : World} {g : Nat} {a b e f : Int} (h0 : w.cell? ⟨g, 0, none⟩ = some (.int .i64 a)) (h1 : w.cell? ⟨g, 1, none⟩ = some (.int .i64 b)) :
    ((w.setCell ⟨g, 0, none⟩ (.int .i64 e)).setCell ⟨g, 1, none⟩ (.int .i64 f)).cell? ⟨g, 0, none⟩ = some (.int .i64 e) ∧ ((w.setCell ⟨g, 0, none⟩ (.int .i64 e)).setCell ⟨g, 1, none⟩ (.int .i64 f)).cell? ⟨g, 1, none⟩ = some (.int .i64 f) := by
  refine ⟨?_, ?_⟩
  · rw [World.cell?_setCell_other (h := fun e => by injection e; omega)]
    exact World.cell?_setCell_same _ _ _ h0
  · exact World.cell?_setCell_same _ _ _ ((World.cell?_setCell_other _ _ _ _ (fun e => by injection e; omega)).trans h1)
set_option maxRecDepth 100000 in
set_option maxHeartbeats 1000000 in
theorem Split_any (s : ByteArray) (w : World) (hs : s.size ≤ 9223372036854775807) (hT : TabE w) :
    Calls Tryd.prog 7 #[.string s] w fun e w' => ∃ v er at', e = .returned (.tuple #[v, .agg #[.int .i64 er, .int .i64 at']]) ∧ TopIs w' w.heap.size s v er at' ∧ Below w.heap.size w w' := by
  have HT := Lib.hid hT
  have HB0 := Lib.hid ((Below.refl w.heap.size w).alloc (Nat.le_refl _) (.cells #[.int .i64 0, .int .i64 0] 25))
  clear hT
  by_cases h4 : 4000 < s.size
  · have h4' : (4000 : Int) < (s.size : Int) := by omega
    go_enter Tryd.func7, Tryd.ntmps7
    go_wp2_with fail
    refine bodyPost_ret (v := .tuple #[.slice none 0 0, .agg #[.int .i64 2, .int .i64 0]]) ?_ rfl ⟨_, 2, 0, rfl, .inl ⟨h4, rfl, rfl, rfl⟩, ?_⟩
    · simp [results, Tryd.results7, go_sem]
    · exact (Below.refl w.heap.size w).alloc (Nat.le_refl _) _
  · have h4' : decide ((4000 : Int) < (s.size : Int)) = false := decide_eq_false (by omega)
    go_enter Tryd.func7, Tryd.ntmps7
    go_wp2_with fail
    have z0 : (w.alloc (.cells #[.int .i64 0, .int .i64 0] 25)).cell? ⟨w.heap.size, 0, none⟩ = some (.int .i64 0) := by simp
    have z1 : (w.alloc (.cells #[.int .i64 0, .int .i64 0] 25)).cell? ⟨w.heap.size, 1, none⟩ = some (.int .i64 0) := by simp
    have f0 : (w.alloc (.cells #[.int .i64 0, .int .i64 0] 25)).frozen? ⟨w.heap.size, 0, none⟩ = false := by simp
    have f1 : (w.alloc (.cells #[.int .i64 0, .int .i64 0] 25)).frozen? ⟨w.heap.size, 1, none⟩ = false := by simp
    have hsz : w.heap.size + 1 ≤ (w.alloc (.cells #[.int .i64 0, .int .i64 0] 25)).heap.size := by simp
    generalize w.alloc (.cells #[.int .i64 0, .int .i64 0] 25) = W at *
    have hlW : w.heap.size < W.heap.size := by omega
    refine (split_any s W (by omega) (HT.out.below HB0.out)).mono ?_
    rintro e w1 ⟨v, er, at', rfl, hsp, hb⟩
    obtain ⟨x, n, c, rfl⟩ := hsp.slice
    have HB1 := Lib.hid (HB0.out.trans (hb.mono HB0.out.size))
    have c0 := (hb.cell (p := ⟨w.heap.size, 0, none⟩) hlW).trans z0
    have c1 := (hb.cell (p := ⟨w.heap.size, 1, none⟩) hlW).trans z1
    have g0 := (hb.frozen (p := ⟨w.heap.size, 0, none⟩) hlW).trans f0
    have g1 := (hb.frozen (p := ⟨w.heap.size, 1, none⟩) hlW).trans f1
    have HS := Lib.hid hsp
    clear hb z0 z1 f0 f1 hsp
    have HF := Lib.hid (fault_put (e := er) (f := at') c0 c1)
    go_wp2_with fail
    refine bodyPost_ret (v := .tuple #[.slice x n c, .agg #[.int .i64 er, .int .i64 at']]) ?_ rfl ⟨_, _, _, rfl, .inr ⟨by omega, ?_⟩, ?_⟩
    · simp [results, Tryd.results7, go_sem, HF.out.1, HF.out.2]
    · rcases HS.out with ⟨L, h1, h2, h3⟩ | h
      · refine .inl ⟨L, h1, GrowT.mono (GrowT.put (GrowT.put h2 (by simp; omega) _) (by simp; omega) _) (by omega), h3⟩
      · exact .inr h
    · exact (HB1.out.setCell (by simp) _).setCell (by simp) _
theorem gap_none {s : ByteArray} {a b : Nat} (h : GapAt s a b) (h0 : blkB (bt s a) = false) (h1 : bt s a ≠ 35) : b = a := by
  cases h with
  | stop _ k hs hn =>
    by_cases hk : k = 0
    · omega
    · have := hs.2.1 0 (by omega)
      rw [Nat.add_zero, h0] at this
      cases this
  | more _ k m _ hs hn hm hr =>
    by_cases hk : k = 0
    · subst hk
      exact absurd hn h1
    · have := hs.2.1 0 (by omega)
      rw [Nat.add_zero, h0] at this
      cases this
/-- The text that must be split in any case. -/
def beg : ByteArray := ⟨#[97, 60, 61, 49, 46, 53, 48]⟩
theorem beg_f0 : firstO (beg.extract 0 beg.size) = .tok 1 1 0 false := by kernel_rfl
theorem beg_f1 : firstO (beg.extract 1 beg.size) = .tok 3 2 0 false := by kernel_rfl
theorem beg_f3 : firstO (beg.extract 3 beg.size) = .tok 2 4 150 true := by kernel_rfl
theorem beg_gap {a m : Nat} (h : GapAt (beg.extract a beg.size) 0 m) : m = 0 := by
  refine gap_none h ?_ ?_
  · rw [bt_suffix, Nat.add_zero]
    by_cases ha : a < 7
    · have : a = 0 ∨ a = 1 ∨ a = 2 ∨ a = 3 ∨ a = 4 ∨ a = 5 ∨ a = 6 := by omega
      rcases this with rfl | rfl | rfl | rfl | rfl | rfl | rfl <;> decide
    · rw [bt_out (by show ¬ a < 7; exact ha)]; decide
  · rw [bt_suffix, Nat.add_zero]
    by_cases ha : a < 7
    · have : a = 0 ∨ a = 1 ∨ a = 2 ∨ a = 3 ∨ a = 4 ∨ a = 5 ∨ a = 6 := by omega
      rcases this with rfl | rfl | rfl | rfl | rfl | rfl | rfl <;> decide
    · rw [bt_out (by show ¬ a < 7; exact ha)]; decide
def t1 : Tk := ⟨1, (beg.extract 0 beg.size).extract 0 1, 0, false, 0⟩
def t2 : Tk := ⟨3, (beg.extract 1 beg.size).extract 0 2, 0, false, 1⟩
def t3 : Tk := ⟨2, (beg.extract 3 beg.size).extract 0 4, 150, true, 3⟩
theorem beg_toks {a : Nat} {L : List Tk} (h : Toks beg a L) : (a = 0 ∧ L = []) ∨ (a = 1 ∧ L = [t1]) ∨ (a = 3 ∧ L = [t1, t2]) ∨ (a = 7 ∧ L = [t1, t2, t3]) := by
  induction h with
  | start a h ha =>
    refine .inl ⟨gap_none h (by decide) (by decide), rfl⟩
  | step a L k n v p m h ha hf hm hms ih =>
    obtain rfl := beg_gap hm
    rcases ih with ⟨rfl, rfl⟩ | ⟨rfl, rfl⟩ | ⟨rfl, rfl⟩ | ⟨rfl, rfl⟩
    · rw [beg_f0] at hf
      injection hf with e1 e2 e3 e4
      subst e1 e2 e3 e4
      exact .inr (.inl ⟨rfl, rfl⟩)
    · rw [beg_f1] at hf
      injection hf with e1 e2 e3 e4
      subst e1 e2 e3 e4
      exact .inr (.inr (.inl ⟨rfl, rfl⟩))
    · rw [beg_f3] at hf
      injection hf with e1 e2 e3 e4
      subst e1 e2 e3 e4
      exact .inr (.inr (.inr ⟨rfl, rfl⟩))
    · exact absurd ha (by decide)
theorem beg_split {w : World} {B : Nat} {v : Value} {e at' : Int} (h : TopIs w B beg v e at') : e = 0 ∧ at' = 0 ∧ GrowT w B v [t1, t2, t3] := by
  rcases h with ⟨h, _⟩ | ⟨_, ⟨L, hT, hG, rfl, rfl⟩ | ⟨a, L, o, hT, ha, hf, _⟩⟩
  · exact absurd h (by decide)
  · rcases beg_toks hT with ⟨h, _⟩ | ⟨h, _⟩ | ⟨h, _⟩ | ⟨_, rfl⟩
    · exact absurd h (by decide)
    · exact absurd h (by decide)
    · exact absurd h (by decide)
    · exact ⟨rfl, rfl, hG⟩
  · exfalso
    rcases beg_toks hT with ⟨rfl, _⟩ | ⟨rfl, _⟩ | ⟨rfl, _⟩ | ⟨rfl, _⟩
    · rw [beg_f0] at hf; cases hf
    · rw [beg_f1] at hf; cases hf
    · rw [beg_f3] at hf; cases hf
    · exact absurd ha (by decide)
set_option maxRecDepth 100000 in
set_option maxHeartbeats 1000000 in
theorem begun_any (w : World) (hT : TabE w) : Calls Tryd.prog 9 #[] w fun e w' => e = .returned (.bool true) ∧ Below w.heap.size w w' := by
  have HT := Lib.hid hT
  clear hT
  go_enter Tryd.func9, Tryd.ntmps9
  go_wp2_with fail
  refine (Split_any beg w (by decide) HT.out).mono ?_
  rintro e w1 ⟨v, er, at', rfl, hsp, hb⟩
  obtain ⟨rfl, rfl, hg⟩ := beg_split hsp
  rcases hg.form with ⟨_, h⟩ | ⟨g, c, rfl, hB, hl, hat⟩
  · cases h
  have HB1 := Lib.hid hb
  obtain ⟨_, y1, _, _, _⟩ := hat 1 (by decide)
  obtain ⟨_, _, z2, _, _⟩ := hat 2 (by decide)
  have e1 : (tnth [t1, t2, t3] 1).txt = ⟨#[60, 61]⟩ := by kernel_rfl
  have e2 : (tnth [t1, t2, t3] 2).num = 150 := rfl
  rw [e1] at y1
  rw [e2] at z2
  have hl3 : ([t1, t2, t3] : List Tk).length = 3 := rfl
  rw [hl3]
  clear hb hsp hg hat
  go_wp2_with fail
  go_ret
  exact ⟨rfl, HB1.out.alloc HB1.out.size _⟩
end Go.Proofs.YtgiacemmigjloaaDoor
