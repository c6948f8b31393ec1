/-
  The walk of the law CalendarSeeks: it answers true at every int and every list.
-/
import Derived.Test.YtllghjmiaddekaaDoorCWorkR
import Derived.Test.YtllghjmiaddekaaDoorCBegun
namespace Go.Proofs.YtllghjmiaddekaaDoor
open Go.RowKit Go.Maps

theorem one_cells (w : World) (d : Int) : ∀ k, k < 1 → (w.alloc (.cells #[.int .i64 d] 3)).cell? ⟨w.heap.size, k, none⟩ = some (.int .i64 (nth [d] k)) := by
  intro k hk
  have : k = 0 := by omega
  subst this
  simp [nth]
theorem NextIs.cases {l : List Int} {d r e : Int} (h : NextIs l d r e) (hd : 0 ≤ d) : (e = 0 ∧ 0 ≤ r) ∨ (e = 5 ∧ r = 0) := by
  rcases h with ⟨a1, a2, _⟩ | ⟨a1, a2, _⟩
  · exact .inl ⟨a1, by omega⟩
  · exact .inr ⟨a1, a2⟩
theorem LastIs.cases {l : List Int} {d r e : Int} (h : LastIs l d r e) : (e = 0 ∧ 0 ≤ r) ∨ (e = 5 ∧ r = 0) := by
  rcases h with ⟨a1, a2, _⟩ | ⟨a1, a2, _⟩
  · exact .inl ⟨a1, by omega⟩
  · exact .inr ⟨a1, a2⟩
/-- numberIs where both tell an error: the number is 0, the other one may be any. -/
theorem numberIs_err (e m : Int) (w : World) (h : e ≠ 0) : Calls Tryd.prog 19 #[.int .i64 0, .int .i64 e, .int .i64 e, .int .i64 m] w fun r w' => r = .returned (.bool true) ∧ w' = w := by
  have hb : decide (e = 0) = false := decide_eq_false h
  go_enter Tryd.func19, Tryd.ntmps19
  go_wp2
  go_ret
  exact ⟨cret_bool (by simp), rfl⟩

set_option maxRecDepth 100000 in
set_option maxHeartbeats 2000000 in
theorem walk_calendarSeeks (d : Int) (_ : (Lit.int .i64 d).wf = true) (w : World) (a : Option Addr) (n cap : Nat) (l : List Int) (hc : Came w a l) (hn : l.length = n) (hm : n ≤ maxLen) (_ : ∀ x ∈ l, (Lit.int .i64 x).wf = true) (ht : Tab w) :
    Calls Tryd.prog 9 #[.int .i64 d, .slice a n cap] w fun e w' => e = .returned (.bool true) ∧ Below w.heap.size w w' := by
  have HT := Lib.hid ht
  have HC := Lib.hid hc
  have HM := Lib.hid hm
  have HN := Lib.hid hn
  have hce := checkE_bd l [d]
  clear ht hc hm hn
  go_enter Tryd.func9, Tryd.ntmps9
  go_wp2_with fail
  refine (Next_any d a n cap l w HC.out HN.out HM.out).mono ?_
  rintro e w1 ⟨r, er, rfl, hE, hb1⟩
  have HB1 := Lib.hid hb1
  have HE := Lib.hid hE
  clear hb1 hE
  go_wp2_with fail
  refine (Last_any d a n cap l w1 (HC.out.below HB1.out) HN.out HM.out).mono ?_
  rintro e w2 ⟨r', er', rfl, hE', hb2⟩
  have HB2 := Lib.hid (HB1.out.trans (hb2.mono HB1.out.size))
  have HE' := Lib.hid hE'
  clear hb2 hE'
  go_wp2_with fail
  have HB3 := Lib.hid (HB2.out.alloc HB2.out.size (.cells #[.int .i64 d] 3))
  refine (checkHolidays_ref a n cap l w2.heap.size 1 1 [d] _ (HC.out.below HB3.out) HN.out HM.out (one_cells w2 d) rfl (by omega)).mono ?_
  rintro e w3 ⟨rfl, k3, rfl⟩
  have HB4 := Lib.hid (below_dN HB3.out k3)
  by_cases hz : checkE l [d] = 0
  · rcases HE.out with ⟨h1, _, _⟩ | ⟨_, hN⟩
    · exact absurd hz h1
    rcases HE'.out with ⟨h1, _, _⟩ | ⟨_, hL⟩
    · exact absurd hz h1
    have hok := checkE_ok hz
    have hft : dayB d = true := by simpa using hok.2.1
    have HS1 := Lib.hid (fun w (hc : Came w a l) => seek_next d a n cap l w hft hc HN.out (by have := HN.out; omega))
    have HS2 := Lib.hid (fun w (hc : Came w a l) => seek_last d a n cap l w hft hc HN.out (by have := HN.out; omega))
    have HNX := Lib.hid hN
    have HLS := Lib.hid hL
    have hcN := hN.cases (dayB_iff.1 hft).1
    have hcL := hL.cases
    clear hok hft hN hL HE HE'
    go_wp2_with fail
    refine (HS1.out _ (HC.out.below HB4.out)).mono ?_
    rintro e w4 ⟨r1, er1, rfl, hN1, rfl⟩
    obtain ⟨rfl, rfl⟩ := hN1.unique HNX.out
    go_wp2_with fail
    refine (HS2.out _ (HC.out.below HB4.out)).mono ?_
    rintro e w5 ⟨r2, er2, rfl, hL2, rfl⟩
    obtain ⟨rfl, rfl⟩ := hL2.unique HLS.out
    clear hN1 hL2 HNX HLS HS1 HS2
    rcases hcN with ⟨rfl, hr0⟩ | ⟨rfl, rfl⟩ <;> rcases hcL with ⟨rfl, hl0⟩ | ⟨rfl, rfl⟩
    · have hr0B : decide (r1 < 0) = false := decide_eq_false (by omega)
      have hl0B : decide (r2 < 0) = false := decide_eq_false (by omega)
      rw [seekV_ok r1, seekV_ok r2]
      go_wp2_with fail
      refine (begun_any _ (HT.out.below HB4.out)).mono ?_
      rintro e w5 ⟨rfl, hb5⟩
      have HB5 := Lib.hid (HB4.out.trans (hb5.mono HB4.out.size))
      clear hb5
      go_wp2_with fail
      refine (numberIs_same _ 0 _ (fun h => absurd rfl h)).mono ?_
      rintro e w6 ⟨rfl, rfl⟩
      go_wp2_with fail
      refine (numberIs_same _ 0 _ (fun h => absurd rfl h)).mono ?_
      rintro e w7 ⟨rfl, rfl⟩
      go_wp2_with fail
      go_ret
      exact ⟨rfl, HB5.out⟩
    · have hr0B : decide (r1 < 0) = false := decide_eq_false (by omega)
      rw [seekV_ok r1, seekV_no 0]
      go_wp2_with fail
      refine (begun_any _ (HT.out.below HB4.out)).mono ?_
      rintro e w5 ⟨rfl, hb5⟩
      have HB5 := Lib.hid (HB4.out.trans (hb5.mono HB4.out.size))
      clear hb5
      go_wp2_with fail
      refine (numberIs_same _ 0 _ (fun h => absurd rfl h)).mono ?_
      rintro e w6 ⟨rfl, rfl⟩
      go_wp2_with fail
      refine (numberIs_err 5 _ _ (by omega)).mono ?_
      rintro e w7 ⟨rfl, rfl⟩
      go_wp2_with fail
      go_ret
      exact ⟨rfl, HB5.out⟩
    · have hl0B : decide (r2 < 0) = false := decide_eq_false (by omega)
      rw [seekV_no 0, seekV_ok r2]
      go_wp2_with fail
      refine (begun_any _ (HT.out.below HB4.out)).mono ?_
      rintro e w5 ⟨rfl, hb5⟩
      have HB5 := Lib.hid (HB4.out.trans (hb5.mono HB4.out.size))
      clear hb5
      go_wp2_with fail
      refine (numberIs_err 5 _ _ (by omega)).mono ?_
      rintro e w6 ⟨rfl, rfl⟩
      go_wp2_with fail
      refine (numberIs_same _ 0 _ (fun h => absurd rfl h)).mono ?_
      rintro e w7 ⟨rfl, rfl⟩
      go_wp2_with fail
      go_ret
      exact ⟨rfl, HB5.out⟩
    · rw [seekV_no 0]
      go_wp2_with fail
      refine (begun_any _ (HT.out.below HB4.out)).mono ?_
      rintro e w5 ⟨rfl, hb5⟩
      have HB5 := Lib.hid (HB4.out.trans (hb5.mono HB4.out.size))
      clear hb5
      go_wp2_with fail
      refine (numberIs_err 5 _ _ (by omega)).mono ?_
      rintro e w6 ⟨rfl, rfl⟩
      go_wp2_with fail
      refine (numberIs_err 5 _ _ (by omega)).mono ?_
      rintro e w7 ⟨rfl, rfl⟩
      go_wp2_with fail
      go_ret
      exact ⟨rfl, HB5.out⟩
  · have hzB : decide (checkE l [d] = 0) = false := decide_eq_false hz
    rcases HE.out with ⟨_, rfl, rfl⟩ | ⟨h1, _⟩
    · rcases HE'.out with ⟨_, rfl, rfl⟩ | ⟨h1, _⟩
      · go_wp2_with fail
        refine (begun_any _ (HT.out.below HB4.out)).mono ?_
        rintro e w5 ⟨rfl, hb5⟩
        have HB5 := Lib.hid (HB4.out.trans (hb5.mono HB4.out.size))
        clear hb5
        go_wp2_with fail
        refine (numberIs_same 0 _ _ (fun _ => rfl)).mono ?_
        rintro e w6 ⟨rfl, rfl⟩
        go_wp2_with fail
        refine (numberIs_same 0 _ _ (fun _ => rfl)).mono ?_
        rintro e w7 ⟨rfl, rfl⟩
        go_wp2_with fail
        go_ret
        exact ⟨rfl, HB5.out⟩
      · exact absurd h1 hz
    · exact absurd h1 hz
end Go.Proofs.YtllghjmiaddekaaDoor
