/-
  Walk of money.shares: at a total of money and weights that are rates and add up to S above 0 it returns a new row that holds the shares.
-/
import Derived.Test.YtckealcgbjgfhaaDoorMShare
namespace Go.Proofs.YtckealcgbjgfhaaDoor.Mny
open Go.RowKit

theorem info_int : (Tryd.prog.info? 3).map (fun i => (i.zero, i.size, i.bytes)) = some (some (.int .i64 0), 1, 8) := by kernel_rfl
theorem make_ints (n : Nat) (h : n ≤ 1000000000) (w : World) :
    (Instr.makeSlice 22 (.int .i64 (n : Int)) (.int .i64 (n : Int))).run Tryd.prog w = .ok (.slice (some ⟨w.heap.size, 0, none⟩) n n) (w.alloc (.cells (madeCells #[.int .i64 0] n) 3)) := by
  obtain ⟨i0, hi, hz0, hz1, hz2⟩ := info_parts info_int
  have := run_make (P := Tryd.prog) w 22 3 i0 (.int .i64 0) Tryd.underlying22 hi hz0 .i64 .i64 n n (by omega) (by omega) (by rw [hz2]; omega) (by omega)
  simpa [hz1, Value.cells] using this

/-- What the weights must be. -/
structure Wts (T S : Int) (l : List Int) : Prop where
  t0 : 0 ≤ T
  t1 : T ≤ 1000000000000
  s0 : 1 ≤ S
  s1 : S ≤ 20000000
  n0 : 1 ≤ l.length
  n1 : l.length ≤ 20
  x0 : ∀ j, 0 ≤ nth l j
  x1 : ∀ j, nth l j ≤ 1000000
  xs : ∀ j, nth l j ≤ S

theorem exactP_bd {T S x : Int} (t0 : 0 ≤ T) (s0 : 1 ≤ S) (x0 : 0 ≤ x) (xs : x ≤ S) : 0 ≤ exactP T S x ∧ exactP T S x ≤ T := by
  have h : 0 ≤ T * x := Int.mul_nonneg t0 x0
  unfold exactP
  refine ⟨Int.ediv_nonneg h (by omega), ?_⟩
  exact Int.ediv_le_of_le_mul (by omega) (Int.mul_le_mul_of_nonneg_left xs t0)

theorem leftTo_bd {T S : Int} {l : List Int} (h : Wts T S l) (k : Nat) : leftTo T S l k ≤ T ∧ T - k * T ≤ leftTo T S l k := by
  induction k with
  | zero => simp [leftTo]
  | succ k ih =>
    have := exactP_bd h.t0 h.s0 (h.x0 k) (h.xs k)
    rw [leftTo]
    have e : ((k + 1 : Nat) : Int) * T = k * T + T := by rw [Int.natCast_add, Int.add_mul]; simp
    omega

def pTo (T S : Int) (l : List Int) (k : Nat) : List Int := fillTo (fun j => exactP T S (nth l j)) l.length k
def rTo (T S : Int) (l : List Int) (k : Nat) : List Int := fillTo (fun j => exactR T S (nth l j)) l.length k

theorem give_bd {C : Int} (p r : List Int) (h : ∀ j, 0 ≤ nth p j ∧ nth p j ≤ C) (hr : r.length = p.length) (hp : 0 < p.length) (k : Nat) : ∀ j, 0 ≤ nth (give k p r).1 j ∧ nth (give k p r).1 j ≤ C + k := by
  induction k with
  | zero => intro j; have := h j; simp [give]; omega
  | succ k ih =>
    intro j
    have hl := give_length k p r
    have hf : fg (give k p r).2 < (give k p r).1.length := by
      have := fgTo_lt (give k p r).2 (by omega) _ (Nat.le_refl _)
      unfold fg; omega
    simp only [give]
    rw [nth_set hf]
    have a := ih j
    have b := ih (fg (give k p r).2)
    split <;> omega

set_option maxHeartbeats 2000000 in
theorem shares_any (T S : Int) (l : List Int) (b off c : Nat) (w : World) (hw : Wts T S l) (hat : At w b off l) :
    Calls Tryd.prog 16 #[.int .i64 T, .int .i64 S, .slice (some ⟨b, off, none⟩) l.length c] w fun e w' =>
      e = .returned (.slice (some ⟨w.heap.size, 0, none⟩) l.length l.length) ∧
      Own w' w.heap.size (give (leftTo T S l l.length).toNat (pTo T S l l.length) (rTo T S l l.length)).1 ∧ Below w.heap.size w w' := by
  have HW : Hid (Wts T S l) := hw
  obtain ⟨t0, t1, s0, s1, n0, n1, x0, x1, xs⟩ := hw
  have HX : Hid ((∀ j, 0 ≤ nth l j) ∧ (∀ j, nth l j ≤ 1000000) ∧ (∀ j, nth l j ≤ S)) := ⟨x0, x1, xs⟩
  clear x0 x1 xs
  have HC : Hid (At w b off l) := hat
  have hbw := hat.1
  clear hat
  generalize hn : l.length = n at *
  have HN : Hid (l.length = n) := hn
  clear hn
  have hmk := make_ints n (by omega)
  have hS0 : (S == 0) = false := by simp; omega
  go_enter Tryd.func16, Tryd.ntmps16
  go_wp2
  go_loopw [9, 22] (fun left i wr => ∃ k : Nat, k ≤ n ∧ i = .int .i64 k ∧ left = .int .i64 (leftTo T S l k) ∧ Own wr w.heap.size (pTo T S l k) ∧ Own wr (w.heap.size + 1) (rTo T S l k) ∧ Below w.heap.size w wr)
    (fun _ i _ => n - (intOf i).toNat)
  case atStart =>
    have e1 : pTo T S l 0 = List.replicate n 0 := by rw [← HN.out]; rfl
    have e2 : rTo T S l 0 = List.replicate n 0 := by rw [← HN.out]; rfl
    refine ⟨0, Nat.zero_le _, rfl, rfl, ?_, ?_, ?_⟩
    · rw [e1]; exact (Own.made w n _).alloc _
    · rw [e2]
      have := Own.made (w.alloc (.cells (madeCells #[.int .i64 0] n) 3)) n 3
      simpa using this
    · exact ((Below.refl _ _).alloc (Nat.le_refl _) _).alloc (by simp) _
  case round =>
    obtain ⟨k, hk, rfl, rfl, hp, hr, hb⟩ := hrel
    have hlb := leftTo_bd HW.out k
    have hlb1 : leftTo T S l k ≤ 1000000000000 := by omega
    have hlb2 : -20000000000000 ≤ leftTo T S l k := by
      have : (k : Int) * T ≤ 20 * 1000000000000 := Int.mul_le_mul (by omega) t1 t0 (by omega)
      omega
    clear hlb
    by_cases hlt : k < n
    · have hlt' : (k : Int) < (n : Int) := by omega
      have hx0 := HX.out.1 k
      have hx1 := HX.out.2.1 k
      have hxs := HX.out.2.2 k
      have hcx : wr.cell? ⟨b, off + k, none⟩ = some (.int .i64 (nth l k)) := ((HC.out).below hb hbw).cell (by rw [HN.out]; exact hlt)
      have hpl : k < (pTo T S l k).length := by unfold pTo; rw [fillTo_length, HN.out]; exact hlt
      have hrl : k < (rTo T S l k).length := by unfold rTo; rw [fillTo_length, HN.out]; exact hlt
      have c1 := hp.cell hpl
      have f1 := hp.free hpl
      have c2 := hr.cell hrl
      have f2 := hr.free hrl
      have hm0 : 0 ≤ T * nth l k := Int.mul_nonneg t0 hx0
      have hm1 : T * nth l k ≤ 1000000000000000000 := by
        have : T * nth l k ≤ 1000000000000 * 1000000 := Int.mul_le_mul t1 hx1 hx0 (by omega)
        omega
      have hq : 0 ≤ T * nth l k / S ∧ T * nth l k / S ≤ T := exactP_bd (T := T) (S := S) (x := nth l k) t0 s0 hx0 hxs
      obtain ⟨hq0, hq1⟩ := hq
      have HO : Hid (Own wr w.heap.size (pTo T S l k) ∧ Own wr (w.heap.size + 1) (rTo T S l k) ∧ Below w.heap.size w wr) := ⟨hp, hr, hb⟩
      clear hp hr hb
      go_wp2
      go_roundw
      case rel =>
        obtain ⟨hp, hr, hb⟩ := HO.out
        exact ⟨k + 1, by omega, by go_num, rfl, (hp.set hpl _).other (by omega) _ _, (hr.other (by omega) _ _).set hrl _, (hb.setCell (Nat.le_refl _) _).setCell (by simp) _⟩
      case measure => simp [intOf]; omega
    · have hkn : k = n := by omega
      subst hkn
      have hp0 : ∀ j, 0 ≤ nth (pTo T S l k) j ∧ nth (pTo T S l k) j ≤ T := by
        intro j
        unfold pTo
        rw [nth_fillTo _ _ _ _ (by rw [HN.out]; omega)]
        have := exactP_bd t0 s0 (HX.out.1 j) (HX.out.2.2 j)
        split <;> omega
      have hpl : (pTo T S l k).length = k := by unfold pTo; rw [fillTo_length, HN.out]
      have hrl : (rTo T S l k).length = k := by unfold rTo; rw [fillTo_length, HN.out]
      have HB : Hid (∀ m j, 0 ≤ nth (give m (pTo T S l k) (rTo T S l k)).1 j ∧ nth (give m (pTo T S l k) (rTo T S l k)).1 j ≤ T + (m : Nat)) := fun m => give_bd _ _ hp0 (by omega) (by omega) m
      clear hp0
      have HL : Hid (∀ m, (give m (pTo T S l k) (rTo T S l k)).1.length = k ∧ (give m (pTo T S l k) (rTo T S l k)).2.length = k) := fun m => by have := give_length m (pTo T S l k) (rTo T S l k); omega
      clear hpl hrl
      generalize hpp : pTo T S l k = p at *
      generalize hrr : rTo T S l k = r at *
      generalize hLL : leftTo T S l k = L at *
      have HP : Hid (pTo T S l k = p ∧ rTo T S l k = r ∧ leftTo T S l k = L) := ⟨hpp, hrr, hLL⟩
      clear hpp hrr hLL
      have HO : Hid (Own wr w.heap.size p ∧ Own wr (w.heap.size + 1) r ∧ Below w.heap.size w wr) := ⟨hp, hr, hb⟩
      clear hp hr hb
      go_wp2
      go_loopw [51] (fun i wq => ∃ m : Nat, m ≤ L.toNat ∧ i = .int .i64 m ∧ Own wq w.heap.size (give m p r).1 ∧ Own wq (w.heap.size + 1) (give m p r).2 ∧ Below w.heap.size w wq)
        (fun i _ => L.toNat - (intOf i).toNat)
      case atStart => exact ⟨0, Nat.zero_le _, rfl, HO.out.1, HO.out.2.1, HO.out.2.2⟩
      case round =>
        clear HO
        obtain ⟨m, hm, rfl, hp, hr, hb⟩ := hrel
        by_cases hlt : (m : Int) < L
        · have hl := HL.out m
          have hf : fg (give m p r).2 < k := by
            have := fgTo_lt (give m p r).2 (by omega) _ (Nat.le_refl _)
            unfold fg; omega
          have hbd := HB.out m (fg (give m p r).2)
          have HS : Hid (give (m + 1) p r = ((give m p r).1.set (fg (give m p r).2) (nth (give m p r).1 (fg (give m p r).2) + 1), (give m p r).2.set (fg (give m p r).2) (-1))) := rfl
          generalize hg1 : (give m p r).1 = p1 at *
          generalize hg2 : (give m p r).2 = r1 at *
          clear hg1 hg2
          have HFG := firstGreatest_any (w.heap.size + 1) 0 k r1 wr (by omega) (by omega) hr.at
          rw [hl.2] at HFG
          have HF : Hid (Calls Tryd.prog 32 #[.slice (some ⟨w.heap.size + 1, 0, none⟩) k k] wr fun e w' => e = .returned (.int .i64 (fg r1 : Nat)) ∧ w' = wr) := HFG
          clear HFG
          generalize fg r1 = q at *
          have c1 := hp.cell (j := q) (by omega)
          have f1 := hp.free (j := q) (by omega)
          have c2 := hr.cell (j := q) (by omega)
          have f2 := hr.free (j := q) (by omega)
          have hq' : (q : Int) < (k : Int) := by omega
          obtain ⟨hbd1, hbd2⟩ := hbd
          have HO : Hid (Own wr w.heap.size p1 ∧ Own wr (w.heap.size + 1) r1 ∧ Below w.heap.size w wr) := ⟨hp, hr, hb⟩
          have HL1 : Hid (p1.length = k ∧ r1.length = k) := hl
          clear hp hr hb hl
          go_wp2_with (go_at_call 32; refine (HF.out).mono ?_; rintro e w' ⟨rfl, rfl⟩)
          go_roundw
          case rel =>
            obtain ⟨hp, hr, hb⟩ := HO.out
            have hl := HL1.out
            refine ⟨m + 1, by omega, by go_num, ?_, ?_, (hb.setCell (Nat.le_refl _) _).setCell (by simp) _⟩
            · rw [HS.out]; exact (hp.set (by omega) _).other (by omega) _ _
            · rw [HS.out]; exact (hr.other (by omega) _ _).set (by omega) _
          case measure => simp [intOf]; omega
        · have hmL : m = L.toNat := by omega
          have HO : Hid (Own wr w.heap.size (give L.toNat p r).1 ∧ Below w.heap.size w wr) := by rw [← hmL]; exact ⟨hp, hb⟩
          clear hp hr hb
          go_wp2
          go_ret
          refine ⟨rfl, ?_, HO.out.2⟩
          rw [HP.out.1, HP.out.2.1, HP.out.2.2]
          exact HO.out.1
end Go.Proofs.YtckealcgbjgfhaaDoor.Mny
