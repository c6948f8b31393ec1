/-
  Promise T1: the walks of use and begun, and of what Check asks of leave and of a use.
-/
import Derived.Test.YtlaamfagjpdhgaaLvReach
namespace Go.Proofs.Ytlaamfagjpdhgaa
open Go.RowKit

theorem lbelow_box (w : World) (o : Obj) : Below w.heap.size w (w.alloc o) := (Below.refl w.heap.size w).alloc (Nat.le_refl _) o
set_option maxRecDepth 100000 in
set_option maxHeartbeats 2000000 in
theorem use_any (g : Nat) (h r c : Int) (s : Nat × Int) (d n : Int) (w : World) (ha : AccB w g h r c s) (hr0 : 0 ≤ r) (hr1 : r ≤ 1000) (hc0 : 0 ≤ c) (hc1 : c ≤ 100000) (hd : d ≤ 73048) (hs : 0 ≤ s.2) (hn0 : 1 ≤ n) (hn1 : n ≤ 100000) :
    Calls Try.prog 65 #[.pointer (some ⟨g, 0, none⟩), .agg #[.int .i64 d, .int .i64 n]] w fun e w' => e = .returned (.tuple #[]) ∧ AccB w' g h r c (uss r c s ⟨d, n⟩) ∧ w.grownBy w' (some g) := by
  have hlt := ha.lt
  have HB := Lib.hid (lbelow_box w (.cells #[.int .i64 d, .int .i64 n] 64))
  obtain ⟨lost, hA, hM, hs1, hl0, hl1⟩ := ha
  have HA := Lib.hid (Own.below hA HB.out hlt)
  have HS1 := Lib.hid hs1
  have HL1 := Lib.hid hl1
  have HNN := Lib.hid (rch_nn (d := d) (s := s) hr0 hc0 hs)
  clear hA hs1 hl1
  go_enter Try.func65, Try.ntmps65
  go_wp2_with (first | (go_at_call 66; refine (reach_any g h r c s.1 s.2 lost d _ (by exact HA.out) hM hr0 hr1 hc0 hc1 hd hs HS1.out hl0 HL1.out).mono ?_; rintro e w1 ⟨rfl, hA1, hg1⟩; have y1 := hg1.cell (a := ⟨w.heap.size, 1, none⟩) (v := .int .i64 n) (by simp) (by simp; omega); have HG1 := Lib.hid hg1; have HA1 := Lib.hid hA1; clear hA1 hg1))
  obtain ⟨lo, hA2, hM2, hs2, hl2, hl3⟩ := HA1.out
  obtain ⟨t, ht⟩ : ∃ t, (rch r c d (s.1, s.2)).2 = t := ⟨_, rfl⟩
  have HT : Hid ((rch r c d s).2 = t) := Lib.hid ht
  rw [ht] at hA2 hs2
  have ht0 : 0 ≤ t := by have := HNN.out; rw [HT.out] at this; exact this
  have ht1 : t ≤ 2400000 := by omega
  have HE : Hid (∀ w2 : World, Acc w2 g h r c (rch r c d s).1 (fm ((rch r c d s).1 : Int)) (t - n) lo → AccB w2 g h r c (uss r c s ⟨d, n⟩)) := by
    intro w2 q
    refine ⟨lo, ?_, hM2, ?_, hl2, hl3⟩
    · show Acc w2 g h r c (rch r c d s).1 (fm ((rch r c d s).1 : Int)) ((rch r c d s).2 - n) lo
      rw [HT.out]
      exact q
    · show (rch r c d s).2 - n ≤ 1000 * ((rch r c d s).1 : Int)
      rw [HT.out]
      have : t ≤ 1000 * ((rch r c d s).1 : Int) := hs2
      omega
  have HA3 : Hid (Acc (w1.setCell ⟨g, 7, none⟩ (.int .i64 (t - n))) g h r c (rch r c d s).1 (fm ((rch r c d s).1 : Int)) (t - n) lo) := Own.set7 hA2 _
  have HG3 := Lib.hid (grown_setB ((World.grownBy_alloc w (.cells #[.int .i64 d, .int .i64 n] 64) (some g)).trans HG1.out) 7 (.int .i64 (t - n)))
  obtain ⟨⟨x0, x1, x2, x3, x4, x5, x6, x7, x8⟩, e3, e4, e6, e7, e8⟩ := Own.ac hA2
  clear hA2 hs2 ht HA1
  have hw1 : IntKind.i64.wrap (t - n) = t - n := IntWalk.i64_in _ (by omega)
  go_wp2_with fail
  go_region
  all_goals go_wp2_with fail
  all_goals refine bodyPost_end (v := .tuple #[]) (by simp [results, Try.results65, go_sem]) rfl ?_
  all_goals exact ⟨rfl, HE.out _ HA3.out, grown_drew HG3.out⟩
theorem acc_made (w : World) (h r c y m due had lost : Int) (T : TypeId) : Own (w.alloc (.cells #[.int .i64 h, .int .i64 r, .int .i64 c, .int .i64 y, .int .i64 m, .int .i64 1, .int .i64 due, .int .i64 had, .int .i64 lost] T)) w.heap.size (acL h r c y m due had lost) := by
  refine ⟨by simp, fun j hj => ?_⟩
  have hj' : j < 9 := hj
  match j, hj' with
  | 0, _ => simp [nth, acL]
  | 1, _ => simp [nth, acL]
  | 2, _ => simp [nth, acL]
  | 3, _ => simp [nth, acL]
  | 4, _ => simp [nth, acL]
  | 5, _ => simp [nth, acL]
  | 6, _ => simp [nth, acL]
  | 7, _ => simp [nth, acL]
  | 8, _ => simp [nth, acL]
/-- An account as a value. -/
def accV (h r c : Int) (M : Nat) (due had lost : Int) : Value := .agg #[.int .i64 h, .int .i64 r, .int .i64 c, .int .i64 (2000 + (M : Int) / 12), .int .i64 ((M : Int) % 12 + 1), .int .i64 1, .int .i64 due, .int .i64 had, .int .i64 lost]
theorem Own.all9 {w : World} {b : Nat} {a0 a1 a2 a3 a4 a5 a6 a7 a8 : Int} (o : Own w b [a0, a1, a2, a3, a4, a5, a6, a7, a8]) (v0 v1 v2 v3 v4 v5 v6 v7 v8 : Int) : Own (((((((((w.setCell ⟨b, 0, none⟩ (.int .i64 v0)).setCell ⟨b, 1, none⟩ (.int .i64 v1)).setCell ⟨b, 2, none⟩ (.int .i64 v2)).setCell ⟨b, 3, none⟩ (.int .i64 v3)).setCell ⟨b, 4, none⟩ (.int .i64 v4)).setCell ⟨b, 5, none⟩ (.int .i64 v5)).setCell ⟨b, 6, none⟩ (.int .i64 v6)).setCell ⟨b, 7, none⟩ (.int .i64 v7)).setCell ⟨b, 8, none⟩ (.int .i64 v8)) b [v0, v1, v2, v3, v4, v5, v6, v7, v8] :=
  ((((((((o.set (j := 0) (by simp) v0).set (j := 1) (by simp) v1).set (j := 2) (by simp) v2).set (j := 3) (by simp) v3).set (j := 4) (by simp) v4).set (j := 5) (by simp) v5).set (j := 6) (by simp) v6).set (j := 7) (by simp) v7).set (j := 8) (by simp) v8
theorem Own.nine {w : World} {b : Nat} {a0 a1 a2 a3 a4 a5 a6 a7 a8 : Int} (o : Own w b [a0, a1, a2, a3, a4, a5, a6, a7, a8]) :
    (w.cell? ⟨b, 0, none⟩ = some (.int .i64 a0) ∧ w.cell? ⟨b, 1, none⟩ = some (.int .i64 a1) ∧ w.cell? ⟨b, 2, none⟩ = some (.int .i64 a2) ∧ w.cell? ⟨b, 3, none⟩ = some (.int .i64 a3) ∧ w.cell? ⟨b, 4, none⟩ = some (.int .i64 a4) ∧ w.cell? ⟨b, 5, none⟩ = some (.int .i64 a5) ∧ w.cell? ⟨b, 6, none⟩ = some (.int .i64 a6) ∧ w.cell? ⟨b, 7, none⟩ = some (.int .i64 a7) ∧ w.cell? ⟨b, 8, none⟩ = some (.int .i64 a8)) ∧
    (w.frozen? ⟨b, 0, none⟩ = false ∧ w.frozen? ⟨b, 1, none⟩ = false ∧ w.frozen? ⟨b, 2, none⟩ = false ∧ w.frozen? ⟨b, 3, none⟩ = false ∧ w.frozen? ⟨b, 4, none⟩ = false ∧ w.frozen? ⟨b, 5, none⟩ = false ∧ w.frozen? ⟨b, 6, none⟩ = false ∧ w.frozen? ⟨b, 7, none⟩ = false ∧ w.frozen? ⟨b, 8, none⟩ = false) :=
  ⟨⟨o.cell (j := 0) (by simp), o.cell (j := 1) (by simp), o.cell (j := 2) (by simp), o.cell (j := 3) (by simp), o.cell (j := 4) (by simp), o.cell (j := 5) (by simp), o.cell (j := 6) (by simp), o.cell (j := 7) (by simp), o.cell (j := 8) (by simp)⟩, o.free (j := 0) (by simp), o.free (j := 1) (by simp), o.free (j := 2) (by simp), o.free (j := 3) (by simp), o.free (j := 4) (by simp), o.free (j := 5) (by simp), o.free (j := 6) (by simp), o.free (j := 7) (by simp), o.free (j := 8) (by simp)⟩
theorem Own.grown {w w' : World} {b : Nat} {l : List Int} {row : Option Nat} (h : Own w b l) (hg : w.grownBy w' row) (hb : some b ≠ row) : Own w' b l :=
  ⟨Nat.lt_of_lt_of_le h.1 hg.size, fun j hj => ⟨hg.cell (h.2 j hj).1 hb, by
    have e : w'.frozen? ⟨b, j, none⟩ = w.frozen? ⟨b, j, none⟩ := World.frozen?_of_block (w := w) (hg.block b h.1 hb)
    rw [e]; exact (h.2 j hj).2⟩⟩
theorem made9 (w : World) (T : TypeId) : Own (w.alloc (.cells #[.int .i64 0, .int .i64 0, .int .i64 0, .int .i64 0, .int .i64 0, .int .i64 0, .int .i64 0, .int .i64 0, .int .i64 0] T)) w.heap.size [0, 0, 0, 0, 0, 0, 0, 0, 0] := by
  refine ⟨by simp, fun j hj => ?_⟩
  have hj' : j < 9 := hj
  match j, hj' with
  | 0, _ => simp [nth]
  | 1, _ => simp [nth]
  | 2, _ => simp [nth]
  | 3, _ => simp [nth]
  | 4, _ => simp [nth]
  | 5, _ => simp [nth]
  | 6, _ => simp [nth]
  | 7, _ => simp [nth]
  | 8, _ => simp [nth]
end Go.Proofs.Ytlaamfagjpdhgaa
