/-
  The walk of the law PeriodParts: it answers true at every schedule and every two ints.
-/
import Derived.Test.YtoaobblhmnikgaaPParts
namespace Go.Proofs.Ytoaobblhmnikgaa
open Go.RowKit Go.Maps

theorem AtIs.bd {K A L k f t : Int} (h : AtIs K A L k f t 0) : 0 ≤ f ∧ f ≤ t ∧ t ≤ 73048 ∧ 0 ≤ k ∧ k < 5000 := by
  have h0 := h.ne
  obtain ⟨_, hk, _⟩ := h.inv
  have a : dayB f = true := by
    rcases h.which (Int.le_refl _) h0 with ⟨h, _, h'⟩ | ⟨_, ⟨_, _, h⟩ | ⟨h, _⟩⟩
    · exact absurd h'.symm h
    · omega
    · exact h
  have b : dayB t = true := by
    rcases h.which h0 (Int.le_refl _) with ⟨h, _, h'⟩ | ⟨_, ⟨_, _, h⟩ | ⟨h, _⟩⟩
    · exact absurd h'.symm h
    · omega
    · exact h
  have := dayB_iff.1 a
  have := dayB_iff.1 b
  omega
set_option maxRecDepth 100000 in
set_option maxHeartbeats 1000000 in
theorem walk_periodParts (K A L : Int) (_ : (Lit.int .i64 K).wf = true) (_ : (Lit.int .i64 A).wf = true) (_ : (Lit.int .i64 L).wf = true) (k : Int) (_ : (Lit.int .i64 k).wf = true) (x : Int) (_ : (Lit.int .i64 x).wf = true) (w : World) :
    Calls Try.prog 10 #[.agg #[.int .i64 K, .int .i64 A, .int .i64 L], .int .i64 k, .int .i64 x] w fun e w' => e = .returned (.bool true) ∧ Below w.heap.size w w' := by
  have HB0 := Lib.hid ((Below.refl w.heap.size w).alloc (Nat.le_refl _) (.cells #[.int .i64 K, .int .i64 A, .int .i64 L] 23))
  have HS0 := Lib.hid (SchIs.made w K A L 23)
  go_enter Try.func10, Try.ntmps10
  go_wp2_with fail
  refine (begun_any _).mono ?_
  rintro e wb ⟨rfl, hbb⟩
  have HBb := Lib.hid (HB0.out.trans (hbb.mono HB0.out.size))
  have HSb := Lib.hid (HS0.out.below hbb)
  clear hbb HB0 HS0
  obtain ⟨z0, z1, z2⟩ := HSb.out
  go_wp2_with fail
  refine (At_any K A L k _).mono ?_
  rintro e w1 ⟨f, t, er, rfl, hE, hb1⟩
  have HB1 := Lib.hid ((HBb.out.trans (hb1.mono HBb.out.size)).alloc (Nat.le_trans HBb.out.size hb1.size) (.cells #[.int .i64 f, .int .i64 t] 29))
  have HS1 := Lib.hid ((HSb.out.below hb1).below ((Below.refl w1.heap.size w1).alloc (Nat.le_refl _) (.cells #[.int .i64 f, .int .i64 t] 29)))
  have HP1 := Lib.hid (PBx.made w1 f t 29)
  clear hb1 z0 z1 z2 HBb HSb
  by_cases her : er = 0
  · subst her
    obtain ⟨hf0, hft, ht1, hk0, hk1⟩ := hE.bd
    have HE := Lib.hid hE
    have HWF := Lib.hid (fun n e h => WhichIs.unique (r' := n) (e' := e) (hE.which (Int.le_refl _) hft) h)
    have HWT := Lib.hid (fun n e h => WhichIs.unique (r' := n) (e' := e) (hE.which hft (Int.le_refl _)) h)
    clear hE
    obtain ⟨z0, z1, z2⟩ := HS1.out
    obtain ⟨p0, p1, _, _⟩ := HP1.out
    go_wp2_with fail
    refine (Which_any K A L f _).mono ?_
    rintro e w2 ⟨n, e2, rfl, hw2, hb2⟩
    obtain ⟨rfl, rfl⟩ := HWF.out n e2 hw2
    have HB2 := Lib.hid (HB1.out.trans (hb2.mono HB1.out.size))
    have HS2 := Lib.hid (HS1.out.below hb2)
    have HP2 := Lib.hid (HP1.out.below hb2)
    clear hb2 hw2 z0 z1 z2 p0 p1 HS1 HP1 HB1
    obtain ⟨z0, z1, z2⟩ := HS2.out
    obtain ⟨p0, p1, _, _⟩ := HP2.out
    go_wp2_with fail
    refine (Which_any K A L t _).mono ?_
    rintro e w3 ⟨n3, e3, rfl, hw3, hb3⟩
    obtain ⟨rfl, rfl⟩ := HWT.out n3 e3 hw3
    have HB3 := Lib.hid (HB2.out.trans (hb3.mono HB2.out.size))
    have HS3 := Lib.hid (HS2.out.below hb3)
    have HP3 := Lib.hid (HP2.out.below hb3)
    clear hb3 hw3 z0 z1 z2 p0 p1 HS2 HP2 HB2
    obtain ⟨z0, z1, z2⟩ := HS3.out
    obtain ⟨p0, p1, _, _⟩ := HP3.out
    go_wp2_with fail
    refine (At_any K A L (k + 1) _).mono ?_
    rintro e w4 ⟨f4, t4, e4, rfl, hE4, hb4⟩
    have HB5 := Lib.hid ((HB3.out.trans (hb4.mono HB3.out.size)).alloc (Nat.le_trans HB3.out.size hb4.size) (.cells #[.int .i64 f4, .int .i64 t4] 29))
    have HS5 := Lib.hid ((HS3.out.below hb4).below ((Below.refl w4.heap.size w4).alloc (Nat.le_refl _) (.cells #[.int .i64 f4, .int .i64 t4] 29)))
    have HP5 := Lib.hid ((HP3.out.below hb4).below ((Below.refl w4.heap.size w4).alloc (Nat.le_refl _) (.cells #[.int .i64 f4, .int .i64 t4] 29)))
    clear hb4 z0 z1 z2 p0 p1 HS3 HP3 HB3
    by_cases he4 : e4 = 0
    · subst he4
      obtain rfl := HE.out.next hE4
      clear hE4
      obtain ⟨p0, p1, _, _⟩ := HP5.out
      obtain ⟨z0, z1, z2⟩ := HS5.out
      go_wp2_with fail
      refine (Which_any K A L x _).mono ?_
      rintro e w6 ⟨i, ei, rfl, hw6, hb6⟩
      have HB6 := Lib.hid (HB5.out.trans (hb6.mono HB5.out.size))
      have HS6 := Lib.hid (HS5.out.below hb6)
      have HP6 := Lib.hid (HP5.out.below hb6)
      clear hb6 z0 z1 z2 HS5 HP5 HB5
      by_cases hei : ei = 0
      · subst hei
        have HPI := Lib.hid (parts_is HE.out hw6)
        have HAT := Lib.hid hw6.at
        clear hw6
        obtain ⟨z0, z1, z2⟩ := HS6.out
        obtain ⟨p0, p1, _, _⟩ := HP6.out
        go_wp2_with fail
        refine (At_any K A L i _).mono ?_
        rintro e w7 ⟨f7, t7, e7, rfl, hE7, hb7⟩
        obtain ⟨fa, ta, ha, hx1, hx2⟩ := HAT.out
        obtain ⟨rfl, rfl, rfl⟩ := hE7.unique ha
        have hin : inB x f7 t7 = true := inB_iff.2 ⟨hx1, hx2⟩
        have HB7 := Lib.hid ((HB6.out.trans (hb7.mono HB6.out.size)).alloc (Nat.le_trans HB6.out.size hb7.size) (.cells #[.int .i64 f7, .int .i64 t7] 29))
        have HP7 := Lib.hid ((HP6.out.below hb7).below ((Below.refl w7.heap.size w7).alloc (Nat.le_refl _) (.cells #[.int .i64 f7, .int .i64 t7] 29)))
        have HQ7 := Lib.hid (PBx.made w7 f7 t7 29)
        clear hb7 hE7 ha hx1 hx2 z0 z1 z2 p0 p1 HS6 HP6
        obtain ⟨p0, p1, _, _⟩ := HP7.out
        obtain ⟨q0, q1, _, _⟩ := HQ7.out
        go_wp2_with fail
        refine (within_ref x f7 t7 _).mono ?_
        rintro e w8 ⟨rfl, hb8⟩
        rw [hin]
        have HB8 := Lib.hid (HB7.out.trans (hb8.mono HB7.out.size))
        have HP8 := Lib.hid (HP7.out.below hb8)
        clear hb8 p0 p1 q0 q1
        obtain ⟨p0, p1, _, _⟩ := HP8.out
        go_wp2_with fail
        refine (within_ref x f t _).mono ?_
        rintro e w9 ⟨rfl, hb9⟩
        rw [← HPI.out]
        have HB9 := Lib.hid (HB8.out.trans (hb9.mono HB8.out.size))
        clear hb9
        by_cases hik : i = k
        · have hikB : decide (i = k) = true := decide_eq_true hik
          have hikC : (i == k) = true := by simp [hik]
          rw [hikB]
          clear hik hikB
          go_wp2_with fail
          go_ret
          exact ⟨cret_bool (by simp), HB9.out⟩
        · have hikB : decide (i = k) = false := decide_eq_false hik
          have hikC : (i == k) = false := by simp [hik]
          rw [hikB]
          clear hik hikB
          go_wp2_with fail
          go_ret
          exact ⟨cret_bool (by simp), HB9.out⟩
      · have heiB : decide (ei = 0) = false := decide_eq_false hei
        have heiC : (ei == 0) = false := by simp [hei]
        have heiD : (ei != 0) = true := by simp [hei]
        have hno := parts_not HE.out hw6 hei
        obtain ⟨p0, p1, _, _⟩ := HP6.out
        clear hw6
        go_wp2_with fail
        refine (within_ref x f t _).mono ?_
        rintro e w9 ⟨rfl, hb9⟩
        rw [hno]
        have HB9 := Lib.hid (HB6.out.trans (hb9.mono HB6.out.size))
        clear hb9
        go_wp2_with fail
        go_ret
        exact ⟨cret_bool (by simp), HB9.out⟩
    · have he4B : decide (e4 = 0) = false := decide_eq_false he4
      have he4C : (e4 == 0) = false := by simp [he4]
      clear hE4
      obtain ⟨z0, z1, z2⟩ := HS5.out
      go_wp2_with fail
      refine (Which_any K A L x _).mono ?_
      rintro e w6 ⟨i, ei, rfl, hw6, hb6⟩
      have HB6 := Lib.hid (HB5.out.trans (hb6.mono HB5.out.size))
      have HS6 := Lib.hid (HS5.out.below hb6)
      have HP6 := Lib.hid (HP5.out.below hb6)
      clear hb6 z0 z1 z2 HS5 HP5 HB5
      by_cases hei : ei = 0
      · subst hei
        have HPI := Lib.hid (parts_is HE.out hw6)
        have HAT := Lib.hid hw6.at
        clear hw6
        obtain ⟨z0, z1, z2⟩ := HS6.out
        obtain ⟨p0, p1, _, _⟩ := HP6.out
        go_wp2_with fail
        refine (At_any K A L i _).mono ?_
        rintro e w7 ⟨f7, t7, e7, rfl, hE7, hb7⟩
        obtain ⟨fa, ta, ha, hx1, hx2⟩ := HAT.out
        obtain ⟨rfl, rfl, rfl⟩ := hE7.unique ha
        have hin : inB x f7 t7 = true := inB_iff.2 ⟨hx1, hx2⟩
        have HB7 := Lib.hid ((HB6.out.trans (hb7.mono HB6.out.size)).alloc (Nat.le_trans HB6.out.size hb7.size) (.cells #[.int .i64 f7, .int .i64 t7] 29))
        have HP7 := Lib.hid ((HP6.out.below hb7).below ((Below.refl w7.heap.size w7).alloc (Nat.le_refl _) (.cells #[.int .i64 f7, .int .i64 t7] 29)))
        have HQ7 := Lib.hid (PBx.made w7 f7 t7 29)
        clear hb7 hE7 ha hx1 hx2 z0 z1 z2 p0 p1 HS6 HP6
        obtain ⟨p0, p1, _, _⟩ := HP7.out
        obtain ⟨q0, q1, _, _⟩ := HQ7.out
        go_wp2_with fail
        refine (within_ref x f7 t7 _).mono ?_
        rintro e w8 ⟨rfl, hb8⟩
        rw [hin]
        have HB8 := Lib.hid (HB7.out.trans (hb8.mono HB7.out.size))
        have HP8 := Lib.hid (HP7.out.below hb8)
        clear hb8 p0 p1 q0 q1
        obtain ⟨p0, p1, _, _⟩ := HP8.out
        go_wp2_with fail
        refine (within_ref x f t _).mono ?_
        rintro e w9 ⟨rfl, hb9⟩
        rw [← HPI.out]
        have HB9 := Lib.hid (HB8.out.trans (hb9.mono HB8.out.size))
        clear hb9
        by_cases hik : i = k
        · have hikB : decide (i = k) = true := decide_eq_true hik
          have hikC : (i == k) = true := by simp [hik]
          rw [hikB]
          clear hik hikB
          go_wp2_with fail
          go_ret
          exact ⟨cret_bool (by simp), HB9.out⟩
        · have hikB : decide (i = k) = false := decide_eq_false hik
          have hikC : (i == k) = false := by simp [hik]
          rw [hikB]
          clear hik hikB
          go_wp2_with fail
          go_ret
          exact ⟨cret_bool (by simp), HB9.out⟩
      · have heiB : decide (ei = 0) = false := decide_eq_false hei
        have heiC : (ei == 0) = false := by simp [hei]
        have heiD : (ei != 0) = true := by simp [hei]
        have hno := parts_not HE.out hw6 hei
        obtain ⟨p0, p1, _, _⟩ := HP6.out
        clear hw6
        go_wp2_with fail
        refine (within_ref x f t _).mono ?_
        rintro e w9 ⟨rfl, hb9⟩
        rw [hno]
        have HB9 := Lib.hid (HB6.out.trans (hb9.mono HB6.out.size))
        clear hb9
        go_wp2_with fail
        go_ret
        exact ⟨cret_bool (by simp), HB9.out⟩
  · have herB : decide (er = 0) = false := decide_eq_false her
    have herC : (er != 0) = true := by simp [her]
    go_wp2_with fail
    go_ret
    exact ⟨rfl, HB1.out⟩
end Go.Proofs.Ytoaobblhmnikgaa
