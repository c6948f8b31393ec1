/-
  The walk of the law HistoryStretches: it answers true at every list of rows and all ints.
-/
import Derived.Test.YtjokgohnpnhhdaaHBegun
import Derived.Test.YtjokgohnpnhhdaaHStrR
namespace Go.Proofs.Ytjokgohnpnhhdaa
open Go.RowKit

/-- A list that is read. -/
def ListS (w : World) (v : Value) (L : List Rw) : Prop := (v = .slice none 0 0 ∧ L = []) ∨ ∃ g c, v = .slice (some ⟨g, 0, none⟩) L.length c ∧ RAt w g 0 L
theorem ListS.below {w w' : World} {v : Value} {L : List Rw} (h : ListS w v L) (hb : Below w.heap.size w w') : ListS w' v L := by
  rcases h with h | ⟨g, c, h1, h2⟩
  · exact .inl h
  · exact .inr ⟨g, c, h1, h2.below hb h2.1⟩
set_option maxRecDepth 100000 in
set_option maxHeartbeats 1000000 in
theorem sameStretches_same (v u : Value) (L : List Rw) (w : World) (h : ListS w v L) (h' : ListS w u L) (hl : L.length ≤ 1000000) :
    Calls Try.prog 13 #[v, u] w fun e w' => e = .returned (.bool true) ∧ Below w.heap.size w w' := by
  by_cases h0 : L.length = 0
  · obtain rfl : L = [] := List.eq_nil_of_length_eq_zero h0
    rcases h with ⟨rfl, _⟩ | ⟨g, c, rfl, _⟩ <;> rcases h' with ⟨rfl, _⟩ | ⟨g', c', rfl, _⟩
    all_goals
      clear h0 hl
      go_enter Try.func13, Try.ntmps13
      go_wp2_with fail
      go_loop [5] (fun i => i = .int .i64 0) (fun _ => 0)
      case atStart => rfl
      case round =>
        subst hrel
        go_wp2_with fail
        go_ret
        exact ⟨rfl, Below.refl _ _⟩
  · obtain ⟨g, c, rfl, hr⟩ : ∃ g c, v = .slice (some ⟨g, 0, none⟩) L.length c ∧ RAt w g 0 L := by
      rcases h with ⟨_, h⟩ | h
      · subst h; exact absurd rfl h0
      · exact h
    obtain ⟨g', c', rfl, hr'⟩ : ∃ g c, u = .slice (some ⟨g, 0, none⟩) L.length c ∧ RAt w g 0 L := by
      rcases h' with ⟨_, h⟩ | h
      · subst h; exact absurd rfl h0
      · exact h
    have HR := Lib.hid hr
    have HR' := Lib.hid hr'
    clear hr hr' h h' h0
    generalize hn : L.length = n at *
    have HN := Lib.hid hn
    clear hn
    go_enter Try.func13, Try.ntmps13
    go_wp2_with fail
    go_loopw [5] (fun i wr => ∃ k : Nat, k ≤ n ∧ i = .int .i64 k ∧ RAt wr g 0 L ∧ RAt wr g' 0 L ∧ Below w.heap.size w wr) (fun i _ => n - (intOf i).toNat)
    case atStart => exact ⟨0, Nat.zero_le _, rfl, HR.out, HR'.out, Below.refl _ _⟩
    case round =>
      obtain ⟨k, hk, rfl, hx7, hy7, hb7⟩ := hrel
      have HX7 := Lib.hid hx7
      have HY7 := Lib.hid hy7
      have HB7 := Lib.hid hb7
      clear hx7 hy7 hb7
      by_cases hlt : k < n
      · have hlt' : (k : Int) < (n : Int) := by omega
        obtain ⟨p0, p1, p2, p3⟩ := HX7.out.2 k (by rw [HN.out]; exact hlt)
        obtain ⟨q0, q1, q2, q3⟩ := HY7.out.2 k (by rw [HN.out]; exact hlt)
        simp only [Nat.zero_add] at p0 p1 p2 p3 q0 q1 q2 q3
        go_wp2_with fail
        go_quiet (fail)
        go_wp2_with fail
        go_roundw
        case rel => exact ⟨k + 1, by omega, by go_num, HX7.out, HY7.out, below_dN HB7.out _⟩
        case measure => simp [intOf]; omega
      · obtain rfl : k = n := by omega
        have hlB : decide ((k : Int) < (k : Int)) = false := decide_eq_false (by omega)
        go_wp2_with fail
        go_ret
        exact ⟨rfl, HB7.out⟩

set_option maxRecDepth 100000 in
set_option maxHeartbeats 1000000 in
theorem walk_historyStretches (w : World) (a : Option Addr) (n cap : Nat) (l : List Rw) (hc : CameR w a l) (hn : l.length = n) (hm : n ≤ maxLen) (_ : ∀ r ∈ l, RowWf r) (f : Int) (_ : (Lit.int .i64 f).wf = true) (t : Int) (_ : (Lit.int .i64 t).wf = true) (s : Int) (_ : (Lit.int .i64 s).wf = true) :
    Calls Try.prog 4 #[.slice a n cap, .int .i64 f, .int .i64 t, .int .i64 s] w fun e w' => e = .returned (.bool true) ∧ Below w.heap.size w w' := by
  have HC := Lib.hid hc
  have HN := Lib.hid hn
  have HM := Lib.hid hm
  clear hc hn hm
  go_enter Try.func4, Try.ntmps4
  go_wp2_with fail
  refine (Stretches_any a n cap l f t s w HC.out HN.out HM.out).mono ?_
  rintro e w1 ⟨v, er, rfl, hp, hb1⟩
  have HB1 := Lib.hid hb1
  have HP := Lib.hid hp
  clear hb1 hp
  go_wp2_with fail
  have HB2 := Lib.hid (HB1.out.alloc HB1.out.size (.cells #[.int .i64 f, .int .i64 t, .int .i64 s] 3))
  refine (seenAt_any a n cap l w1.heap.size 3 3 [f, t, s] _ (HC.out.below HB2.out) HN.out HM.out (by simp) (three_cells w1 f t s) rfl (by omega)).mono ?_
  rintro e w2 ⟨rfl, hb3⟩
  have HB3 := Lib.hid (HB2.out.trans (hb3.mono HB2.out.size))
  have HB12 : Hid (Below w1.heap.size w1 w2) := ((Below.refl w1.heap.size w1).alloc (Nat.le_refl _) _).trans (hb3.mono (by simp))
  clear hb3
  rcases HP.out with ⟨hz, rfl, rfl⟩ | ⟨hz, hft, rfl, rfl⟩ | ⟨hz, hft, rfl, L, hg, hst⟩
  · have hzB : decide (dayE l [f, t, s] = 0) = false := decide_eq_false hz
    go_wp2_with fail
    refine (begun_any _).mono ?_
    rintro e w4 ⟨rfl, hb5⟩
    have HB5 := Lib.hid (HB3.out.trans (hb5.mono HB3.out.size))
    clear hb5
    go_wp2_with fail
    refine (sameStretches_same _ _ [] w4 (.inl ⟨rfl, rfl⟩) (.inl ⟨rfl, rfl⟩) (by simp)).mono ?_
    rintro e w5 ⟨rfl, hb6⟩
    have HB6 := Lib.hid (HB5.out.trans (hb6.mono HB5.out.size))
    clear hb6
    go_wp2_with fail
    go_ret
    exact ⟨cret_bool (by simp), HB6.out⟩
  · have HZ := Lib.hid hz
    rw [HZ.out]
    clear hz
    go_wp2_with fail
    refine (begun_any _).mono ?_
    rintro e w4 ⟨rfl, hb5⟩
    have HB5 := Lib.hid (HB3.out.trans (hb5.mono HB3.out.size))
    clear hb5
    go_wp2_with fail
    refine (sameStretches_same _ _ [] w4 (.inl ⟨rfl, rfl⟩) (.inl ⟨rfl, rfl⟩) (by simp)).mono ?_
    rintro e w5 ⟨rfl, hb6⟩
    have HB6 := Lib.hid (HB5.out.trans (hb6.mono HB5.out.size))
    clear hb6
    go_wp2_with fail
    go_ret
    exact ⟨cret_bool (by simp), HB6.out⟩
  · obtain ⟨hh, f0, f1, t0, t1, s0, s1⟩ := dayE3 hz
    have hok := histE_ok hh
    have hn50 : n ≤ 50 := by have := HN.out; omega
    have HROW := Lib.hid hok.2.1
    have HZ := Lib.hid hz
    have HST := Lib.hid hst
    have HL1 : Hid (ListS w1 v L) := by
      rcases hg.form with h | ⟨g, c, h1, _, h3⟩
      · exact .inl h
      · exact .inr ⟨g, c, h1, h3⟩
    have HL2 := Lib.hid (HL1.out.below HB12.out)
    have hftB : decide (t < f) = false := decide_eq_false (by omega)
    have hlen : L.length ≤ 1000000 := by have := Str.len _ _ _ rfl hst; omega
    rw [HZ.out]
    clear hok hh hz hg hst HL1
    go_wp2_with fail
    refine (stretches_ref a n cap l f t s w2 (HC.out.below HB3.out) HN.out hn50 HROW.out f0 hft t1).mono ?_
    rintro e w3 ⟨u, L', rfl, hr, hst', hb4⟩
    have HB4 := Lib.hid (HB3.out.trans (hb4.mono HB3.out.size))
    have HL3 := Lib.hid (HL2.out.below hb4)
    have HU3 : Hid (ListS w3 u L) := by
      rw [Hid, Str.unique _ _ _ _ rfl HST.out hst']
      rcases hr.form with h | ⟨g, c, h1, _, h3, _⟩
      · exact .inl h
      · exact .inr ⟨g, c, h1, h3⟩
    clear hb4 hr hst'
    go_wp2_with fail
    refine (begun_any _).mono ?_
    rintro e w4 ⟨rfl, hb5⟩
    have HB5 := Lib.hid (HB4.out.trans (hb5.mono HB4.out.size))
    have HL4 := Lib.hid (HL3.out.below hb5)
    have HU4 := Lib.hid (HU3.out.below hb5)
    clear hb5
    go_wp2_with fail
    refine (sameStretches_same _ _ L w4 HL4.out HU4.out hlen).mono ?_
    rintro e w5 ⟨rfl, hb6⟩
    have HB6 := Lib.hid (HB5.out.trans (hb6.mono HB5.out.size))
    clear hb6
    go_wp2_with fail
    go_ret
    exact ⟨cret_bool (by simp), HB6.out⟩
end Go.Proofs.Ytjokgohnpnhhdaa
