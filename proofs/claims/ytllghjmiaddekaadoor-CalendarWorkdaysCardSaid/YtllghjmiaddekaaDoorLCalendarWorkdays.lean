/-
  The walk of the law CalendarWorkdays: it answers true at every pair of ints and every list.
-/
import Derived.Test.YtllghjmiaddekaaDoorCWorkR
import Derived.Test.YtllghjmiaddekaaDoorCBegun
namespace Go.Proofs.YtllghjmiaddekaaDoor
open Go.RowKit Go.Maps

theorem two_cells (w : World) (d e : Int) : ∀ k, k < 2 → (w.alloc (.cells #[.int .i64 d, .int .i64 e] 3)).cell? ⟨w.heap.size, k, none⟩ = some (.int .i64 (nth [d, e] k)) := by
  intro k hk
  have : k = 0 ∨ k = 1 := by omega
  rcases this with rfl | rfl
  · simp [nth]
  · simp [nth]

set_option maxRecDepth 100000 in
set_option maxHeartbeats 2000000 in
theorem walk_calendarWorkdays (f : Int) (_ : (Lit.int .i64 f).wf = true) (t : Int) (_ : (Lit.int .i64 t).wf = true) (w : World) (a : Option Addr) (n cap : Nat) (l : List Int) (hc : Came w a l) (hn : l.length = n) (hm : n ≤ maxLen) (_ : ∀ x ∈ l, (Lit.int .i64 x).wf = true) (ht : Tab w) :
    Calls Tryd.prog 8 #[.int .i64 f, .int .i64 t, .slice a n cap] w fun e w' => e = .returned (.bool true) ∧ Below w.heap.size w w' := by
  have HT := Lib.hid ht
  have HC := Lib.hid hc
  have HW := Lib.hid (Workdays_any f t a n cap l w hc hn hm)
  have HM := Lib.hid hm
  have HN := Lib.hid hn
  have hce := checkE_bd l [f, t]
  clear ht hc hm hn
  go_enter Tryd.func8, Tryd.ntmps8
  go_wp2_with fail
  refine HW.out.mono ?_
  rintro e w1 ⟨r, er, rfl, hE, hb1⟩
  have HB1 := Lib.hid hb1
  have HE := Lib.hid hE
  clear hb1 hE HW
  go_wp2_with fail
  have HB2 := Lib.hid (HB1.out.alloc HB1.out.size (.cells #[.int .i64 f, .int .i64 t] 3))
  refine (checkHolidays_ref a n cap l w1.heap.size 2 2 [f, t] _ (HC.out.below HB2.out) HN.out HM.out (two_cells w1 f t) rfl (by omega)).mono ?_
  rintro e w3 ⟨rfl, k3, rfl⟩
  have HB3 := Lib.hid (below_dN HB2.out k3)
  by_cases hz : checkE l [f, t] = 0
  · rcases HE.out with ⟨h1, _, _⟩ | ⟨_, rfl, rfl⟩
    · exact absurd hz h1
    have hok := checkE_ok hz
    have hft : dayB f = true ∧ dayB t = true := by simpa using hok.2.1
    have HWR := Lib.hid (fun w (hc : Came w a l) => workdaysOf_ref f t a n cap l w hft.1 hft.2 hc HN.out (by have := HN.out; omega))
    clear hok hft
    go_wp2_with fail
    refine (HWR.out _ (HC.out.below HB3.out)).mono ?_
    rintro e w4 ⟨rfl, rfl⟩
    go_wp2_with fail
    refine (begun_any _ (HT.out.below HB3.out)).mono ?_
    rintro e w5 ⟨rfl, hb5⟩
    have HB5 := Lib.hid (HB3.out.trans (hb5.mono HB3.out.size))
    clear hb5
    go_wp2_with fail
    refine (numberIs_same _ 0 _ (fun h => absurd rfl h)).mono ?_
    rintro e w6 ⟨rfl, rfl⟩
    go_wp2_with fail
    go_ret
    exact ⟨rfl, HB5.out⟩
  · have hzB : decide (checkE l [f, t] = 0) = false := decide_eq_false hz
    rcases HE.out with ⟨_, rfl, rfl⟩ | ⟨h1, _, _⟩
    · go_wp2_with fail
      refine (begun_any _ (HT.out.below HB3.out)).mono ?_
      rintro e w5 ⟨rfl, hb5⟩
      have HB5 := Lib.hid (HB3.out.trans (hb5.mono HB3.out.size))
      clear hb5
      go_wp2_with fail
      refine (numberIs_same 0 _ _ (fun _ => rfl)).mono ?_
      rintro e w6 ⟨rfl, rfl⟩
      go_wp2_with fail
      go_ret
      exact ⟨rfl, HB5.out⟩
    · exact absurd h1 hz
end Go.Proofs.YtllghjmiaddekaaDoor
