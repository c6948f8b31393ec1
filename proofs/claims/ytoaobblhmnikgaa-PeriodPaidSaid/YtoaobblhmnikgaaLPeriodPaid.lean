/-
  The walk of the law PeriodPaid: it answers true at every schedule, every int and every list.
-/
import Derived.Test.YtoaobblhmnikgaaLPeriodAt
import Derived.Test.YtoaobblhmnikgaaCWorkR
namespace Go.Proofs.Ytoaobblhmnikgaa
open Go.RowKit Go.Maps

theorem AtIs.ok {K A L k f t : Int} (h : AtIs K A L k f t 0) : (0 ≤ L ∧ L ≤ 60) ∧ 0 ≤ t ∧ t ≤ 73048 := by
  rcases h with ⟨a, _, _, d⟩ | ⟨a, ⟨_, _, _, d⟩ | ⟨⟨hk0, hk1⟩, b⟩⟩
  · exact absurd d.symm a
  · cases d
  · obtain ⟨h1, h4, hdA, hL0, hL1⟩ := schedE_ok a
    obtain ⟨hA0, hA1⟩ := dayB_iff.1 hdA
    refine ⟨⟨hL0, hL1⟩, ?_⟩
    rcases b with ⟨hK, ⟨_, _, _, d⟩ | ⟨p, q, r, _⟩⟩ | ⟨_, k0, m0, d0, hc, ⟨_, _, _, d⟩ | ⟨p, q, r, _⟩⟩ | ⟨_, k0, m0, d0, hc, ⟨_, _, _, d⟩ | ⟨p, s, q, r, _⟩ | ⟨p, s, q, r, _⟩⟩
    · cases d
    · have : 0 ≤ 7 * K * k := Int.mul_nonneg (by omega) hk0
      omega
    · cases d
    · have hm1 := hc.m1
      have := mDay_bd (M := 12 * (k0 : Int) + (m0 : Int) - 1 + k) (d := 31) (by omega) (by omega) (by omega)
      omega
    · cases d
    · have hm1 := hc.m1
      have hh := hf_bd d0
      rw [mDay_first (by omega)] at r
      have := fm_low (M := ((12 * (k0 : Int) + (m0 : Int) - 1) * 2 + hf d0 + k) / 2) (by omega) (by omega)
      have := (fm_bd (M := ((12 * (k0 : Int) + (m0 : Int) - 1) * 2 + hf d0 + k) / 2) (by omega) (by omega)).1
      omega
    · have hm1 := hc.m1
      have hh := hf_bd d0
      have := mDay_bd (M := ((12 * (k0 : Int) + (m0 : Int) - 1) * 2 + hf d0 + k) / 2) (d := 31) (by omega) (by omega) (by omega)
      omega
/-- What Paid answers. -/
def PaidIs (K A L k : Int) (l : List Int) (n e : Int) : Prop := ∃ f t er, AtIs K A L k f t er ∧ ((er ≠ 0 ∧ n = 0 ∧ e = er) ∨ (er = 0 ∧ 73048 < t + L ∧ n = 0 ∧ e = 3) ∨ (er = 0 ∧ t + L ≤ 73048 ∧ LastE l (t + L) n e))
theorem PaidIs.unique {K A L k n e n' e' : Int} {l : List Int} (h : PaidIs K A L k l n e) (h' : PaidIs K A L k l n' e') : n = n' ∧ e = e' := by
  obtain ⟨f, t, er, ha, h⟩ := h
  obtain ⟨f', t', er', ha', h'⟩ := h'
  obtain ⟨rfl, rfl, rfl⟩ := ha.unique ha'
  rcases h with ⟨a, b, c⟩ | ⟨a, b, c, d⟩ | ⟨a, b, c⟩ <;> rcases h' with ⟨a', b', c'⟩ | ⟨a', b', c', d'⟩ | ⟨a', b', c'⟩
  · exact ⟨b.trans b'.symm, c.trans c'.symm⟩
  · exact absurd a' a
  · exact absurd a' a
  · exact absurd a a'
  · exact ⟨c.trans c'.symm, d.trans d'.symm⟩
  · omega
  · exact absurd a a'
  · omega
  · exact c.unique c'
theorem LastE.zero {l : List Int} {d n e : Int} (h : LastE l d n e) (he : e ≠ 0) : n = 0 := by
  rcases h with ⟨_, b, _⟩ | ⟨_, ⟨c, _⟩ | ⟨_, c, _⟩⟩
  · exact b
  · exact absurd c he
  · exact c
theorem PaidIs.zero {K A L k n e : Int} {l : List Int} (h : PaidIs K A L k l n e) (he : e ≠ 0) : n = 0 := by
  obtain ⟨f, t, er, ha, ⟨_, b, _⟩ | ⟨_, _, c, _⟩ | ⟨_, _, c⟩⟩ := h
  · exact b
  · exact c
  · exact c.zero he

set_option maxRecDepth 100000 in
set_option maxHeartbeats 1000000 in
theorem Paid_any (K A L k : Int) (a : Option Addr) (n cap : Nat) (l : List Int) (w : World) (hc : Came w a l) (hn : l.length = n) (hm : n ≤ maxLen) :
    Calls Try.prog 20 #[.agg #[.int .i64 K, .int .i64 A, .int .i64 L], .int .i64 k, .slice a n cap] w fun e w' => ∃ r e' : Int, e = .returned (.tuple #[.int .i64 r, .int .i64 e']) ∧ PaidIs K A L k l r e' ∧ Below w.heap.size w w' := by
  have HC := Lib.hid hc
  have HN := Lib.hid hn
  have HM := Lib.hid hm
  clear hc hn hm
  have HB0 := Lib.hid ((Below.refl w.heap.size w).alloc (Nat.le_refl _) (.cells #[.int .i64 K, .int .i64 A, .int .i64 L] 23))
  go_enter Try.func20, Try.ntmps20
  go_wp2_with fail
  refine (At_any K A L k _).mono ?_
  rintro e w1 ⟨f, t, er, rfl, hE, hb1⟩
  obtain ⟨x0, x1, x2⟩ := Sch3 (b := w.heap.size) (K := K) (A := A) (L := L) (by simp) (by simp) (by simp) hb1
  have HB1 := Lib.hid ((HB0.out.trans (hb1.mono HB0.out.size)).alloc (Nat.le_trans HB0.out.size hb1.size) (.cells #[.int .i64 f, .int .i64 t] 29))
  have hl := rlt x0
  clear hb1
  by_cases her : er = 0
  · subst her
    obtain ⟨⟨hL0, hL1⟩, ht0, ht1⟩ := hE.ok
    have HE := Lib.hid hE
    clear hE
    by_cases hdue : 73048 < t + L
    · have HP : Hid (PaidIs K A L k l 0 3) := ⟨f, t, 0, HE.out, .inr (.inl ⟨rfl, hdue, rfl, rfl⟩)⟩
      go_wp2_with fail
      go_ret2
      exact ⟨_, _, rfl, HP.out, HB1.out⟩
    · have hdueB : decide (73048 < t + L) = false := decide_eq_false hdue
      go_wp2_with fail
      refine (Last_any (t + L) a n cap l _ (HC.out.below HB1.out) HN.out HM.out).mono ?_
      rintro e w2 ⟨r, e2, rfl, hL, hb2⟩
      have HP : Hid (PaidIs K A L k l r e2) := ⟨f, t, 0, HE.out, .inr (.inr ⟨rfl, by omega, hL⟩)⟩
      have HB2 := Lib.hid (HB1.out.trans (hb2.mono HB1.out.size))
      clear hb2 hL
      go_wp2_with fail
      go_ret2
      exact ⟨_, _, rfl, HP.out, HB2.out⟩
  · have HP : Hid (PaidIs K A L k l 0 er) := ⟨f, t, er, hE, .inl ⟨her, rfl, rfl⟩⟩
    have herB : decide (er = 0) = false := decide_eq_false her
    clear hE
    go_wp2_with fail
    go_ret2
    exact ⟨_, _, rfl, HP.out, HB1.out⟩
theorem one_cells' (w : World) (d : Int) : ∀ k, k < 1 → (w.alloc (.cells #[.int .i64 d] 3)).cell? ⟨w.heap.size, k, none⟩ = some (.int .i64 (nth [d] k)) := by
  intro k hk
  have : k = 0 := by omega
  subst this
  simp [nth]
theorem one_cells2 (w : World) (o : Obj) (d : Int) : ∀ k, k < 1 → ((w.alloc o).alloc (.cells #[.int .i64 d] 3)).cell? ⟨w.heap.size + 1, k, none⟩ = some (.int .i64 (nth [d] k)) := by
  intro k hk
  have e : w.heap.size + 1 = (w.alloc o).heap.size := by simp
  rw [e]
  exact one_cells' (w.alloc o) d k hk
set_option maxRecDepth 100000 in
set_option maxHeartbeats 1000000 in
theorem paid_ref (K A L k : Int) (a : Option Addr) (n cap : Nat) (l : List Int) (w : World) (hc : Came w a l) (hn : l.length = n) (hm : n ≤ maxLen) :
    Calls Try.prog 21 #[.agg #[.int .i64 K, .int .i64 A, .int .i64 L], .int .i64 k, .slice a n cap] w fun e w' => ∃ r e' : Int, e = .returned (.tuple #[.int .i64 r, .int .i64 e']) ∧ PaidIs K A L k l r e' ∧ Below w.heap.size w w' := by
  have HC := Lib.hid hc
  have HN := Lib.hid hn
  have HM := Lib.hid hm
  clear hc hn hm
  have HB0 := Lib.hid ((Below.refl w.heap.size w).alloc (Nat.le_refl _) (.cells #[.int .i64 K, .int .i64 A, .int .i64 L] 23))
  go_enter Try.func21, Try.ntmps21
  go_wp2_with fail
  refine (periodAt_ref K A L k _).mono ?_
  rintro e w1 ⟨f, t, er, rfl, hE, hb1⟩
  obtain ⟨x0, x1, x2⟩ := Sch3 (b := w.heap.size) (K := K) (A := A) (L := L) (by simp) (by simp) (by simp) hb1
  have HB1 := Lib.hid ((HB0.out.trans (hb1.mono HB0.out.size)).alloc (Nat.le_trans HB0.out.size hb1.size) (.cells #[.int .i64 f, .int .i64 t] 29))
  have hl := rlt x0
  clear hb1
  by_cases her : er = 0
  · subst her
    obtain ⟨⟨hL0, hL1⟩, ht0, ht1⟩ := hE.ok
    have HE := Lib.hid hE
    clear hE
    by_cases hdue : 73048 < t + L
    · have HP : Hid (PaidIs K A L k l 0 3) := ⟨f, t, 0, HE.out, .inr (.inl ⟨rfl, hdue, rfl, rfl⟩)⟩
      have hdy : dayB (t + L) = false := dayB_not.2 (by omega)
      go_wp2_with (go_at_call 32; refine (isDay_ref _ _).mono ?_; rintro e w' ⟨rfl, h'⟩; subst w'; rw [hdy])
      go_ret2
      exact ⟨_, _, rfl, HP.out, HB1.out⟩
    · have hdy : dayB (t + L) = true := dayB_iff.2 (by omega)
      have HPL : Hid (∀ r e, LastE l (t + L) r e → PaidIs K A L k l r e) := fun r e h => ⟨f, t, 0, HE.out, .inr (.inr ⟨rfl, by omega, h⟩)⟩
      have HDY := Lib.hid hdy
      go_wp2_with (go_at_call 32; refine (isDay_ref _ _).mono ?_; rintro e w' ⟨rfl, h'⟩; subst w'; rw [hdy])
      have HB2 := Lib.hid (HB1.out.alloc HB1.out.size (.cells #[.int .i64 (t + L)] 3))
      refine (checkHolidays_ref a n cap l (w1.heap.size + 1) 1 1 [t + L] _ (HC.out.below HB2.out) HN.out HM.out (one_cells2 w1 _ (t + L)) rfl (by omega)).mono ?_
      rintro e w3 ⟨rfl, k3, rfl⟩
      have HB3 := Lib.hid (below_dN HB2.out k3)
      have hcb := checkE_bd l [t + L]
      by_cases hz : checkE l [t + L] = 0
      · have HSK := Lib.hid (fun w (hc : Came w a l) => seek_last (t + L) a n cap l w HDY.out hc HN.out (by have := (checkE_ok hz).1; have := HN.out; omega))
        go_wp2_with fail
        refine (HSK.out _ (HC.out.below HB3.out)).mono ?_
        rintro e w4 ⟨r, e4, rfl, hLS, h4⟩
        subst w4
        have HP := Lib.hid (HPL.out r e4 (.inr ⟨hz, hLS⟩))
        have hcs : (e4 = 0 ∧ 0 ≤ r) ∨ (e4 = 5 ∧ r = 0) := by
          rcases hLS with ⟨a1, a2, _⟩ | ⟨a1, a2, _⟩
          · exact .inl ⟨a1, a2⟩
          · exact .inr ⟨a1, a2⟩
        clear hLS
        rcases hcs with ⟨rfl, hr0⟩ | ⟨rfl, rfl⟩
        · have hr0B : decide (r < 0) = false := decide_eq_false (by omega)
          rw [seekV_ok]
          go_wp2_with fail
          go_ret2
          exact ⟨_, _, rfl, HP.out, HB3.out⟩
        · rw [seekV_no]
          go_wp2_with fail
          go_ret2
          exact ⟨_, _, rfl, HP.out, HB3.out⟩
      · have hzB : decide (checkE l [t + L] = 0) = false := decide_eq_false hz
        have HP := Lib.hid (HPL.out 0 (checkE l [t + L]) (.inl ⟨hz, rfl, rfl⟩))
        go_wp2_with fail
        go_ret2
        exact ⟨_, _, rfl, HP.out, HB3.out⟩
  · have HP : Hid (PaidIs K A L k l 0 er) := ⟨f, t, er, hE, .inl ⟨her, rfl, rfl⟩⟩
    have herB : decide (er = 0) = false := decide_eq_false her
    clear hE
    go_wp2_with fail
    go_ret2
    exact ⟨_, _, rfl, HP.out, HB1.out⟩

set_option maxRecDepth 100000 in
set_option maxHeartbeats 1000000 in
theorem walk_periodPaid (K A L : Int) (_ : (Lit.int .i64 K).wf = true) (_ : (Lit.int .i64 A).wf = true) (_ : (Lit.int .i64 L).wf = true) (k : Int) (_ : (Lit.int .i64 k).wf = true) (w : World) (a : Option Addr) (n cap : Nat) (l : List Int) (hc : Came w a l) (hn : l.length = n) (hm : n ≤ maxLen) (_ : ∀ x ∈ l, (Lit.int .i64 x).wf = true) :
    Calls Try.prog 6 #[.agg #[.int .i64 K, .int .i64 A, .int .i64 L], .int .i64 k, .slice a n cap] w fun e w' => e = .returned (.bool true) ∧ Below w.heap.size w w' := by
  have HC := Lib.hid hc
  have HN := Lib.hid hn
  have HM := Lib.hid hm
  clear hc hn hm
  have HB0 := Lib.hid ((Below.refl w.heap.size w).alloc (Nat.le_refl _) (.cells #[.int .i64 K, .int .i64 A, .int .i64 L] 23))
  go_enter Try.func6, Try.ntmps6
  go_wp2_with fail
  refine (Paid_any K A L k a n cap l _ (HC.out.below HB0.out) HN.out HM.out).mono ?_
  rintro e w1 ⟨r, er, rfl, hE, hb1⟩
  obtain ⟨x0, x1, x2⟩ := Sch3 (b := w.heap.size) (K := K) (A := A) (L := L) (by simp) (by simp) (by simp) hb1
  have HB1 := Lib.hid (HB0.out.trans (hb1.mono HB0.out.size))
  have HE := Lib.hid hE
  clear hb1 hE
  go_wp2_with fail
  refine (paid_ref K A L k a n cap l _ (HC.out.below HB1.out) HN.out HM.out).mono ?_
  rintro e w2 ⟨r', er', rfl, hE', hb2⟩
  obtain ⟨rfl, rfl⟩ := hE'.unique HE.out
  have HB2 := Lib.hid (HB1.out.trans (hb2.mono HB1.out.size))
  clear hb2 hE' x0 x1 x2
  go_wp2_with fail
  refine (begun_any _).mono ?_
  rintro e w3 ⟨rfl, hb3⟩
  have HB3 := Lib.hid (HB2.out.trans (hb3.mono HB2.out.size))
  clear hb3
  go_wp2_with fail
  refine (numberIs_same _ _ _ (fun h => HE.out.zero h)).mono ?_
  rintro e w4 ⟨rfl, rfl⟩
  go_wp2_with fail
  go_ret
  exact ⟨rfl, HB3.out⟩
end Go.Proofs.Ytoaobblhmnikgaa
