/-
  The walk of the law MoneyPrints: it answers true at every int, in every world that holds the library's table.
-/
import Derived.Test.YtiaphopimdljmaaDoorMBegun
import Derived.Test.YtiaphopimdljmaaDoorMDigits
namespace Go.Proofs.YtiaphopimdljmaaDoor
open Go.RowKit

theorem textIs_same (s : ByteArray) (e : Int) (w : World) (h : e ≠ 0 → s = ⟨#[]⟩) : Calls Tryd.prog 23 #[.string s, .int .i64 e, .int .i64 e, .string s] w fun r w' => r = .returned (.bool true) ∧ w' = w := by
  by_cases h0 : e = 0
  · subst h0
    clear h
    go_enter Tryd.func23, Tryd.ntmps23
    go_wp2
    go_ret
    exact ⟨ret_bool (by simp), rfl⟩
  · have hn := h h0
    subst hn
    clear h
    have hb : (e != 0) = true := by simp [h0]
    go_enter Tryd.func23, Tryd.ntmps23
    go_wp2
    go_ret
    exact ⟨ret_bool (by simp), rfl⟩

set_option maxHeartbeats 1000000 in
theorem walk_moneyPrints (n : Int) (_ : (Lit.int .i64 n).wf = true) (w : World) (ht : Tab w) :
    Calls Tryd.prog 6 #[.int .i64 n] w fun e w' => e = .returned (.bool true) ∧ Below w.heap.size w w' := by
  have HT : Hid (Tab w) := ht
  clear ht
  cases hm : monB n
  · go_enter Tryd.func6, Tryd.ntmps6
    go_wp2_with fail
    refine (print_bad n w hm).mono ?_
    rintro e w1 ⟨rfl, rfl⟩
    go_wp2_with fail
    refine (isMoney_ref n _).mono ?_
    rintro e w2 ⟨rfl, rfl⟩
    go_wp2_with fail
    refine (begun _ HT.out).mono ?_
    rintro e w3 ⟨rfl, hb3⟩
    have HB3 := Lib.hid hb3
    clear hb3
    go_wp2_with fail
    refine (textIs_same ⟨#[]⟩ 3 w3 (fun _ => rfl)).mono ?_
    rintro e w4 ⟨rfl, rfl⟩
    go_wp2_with fail
    go_ret
    exact ⟨rfl, HB3.out⟩
  · go_enter Tryd.func6, Tryd.ntmps6
    go_wp2_with fail
    refine (print_ok n w hm HT.out).mono ?_
    rintro e w1 ⟨s, rfl, hs, hb1⟩
    have HS := Lib.hid hs
    have HB1 := Lib.hid hb1
    clear hs hb1
    go_wp2_with fail
    refine (isMoney_ref n _).mono ?_
    rintro e w2 ⟨rfl, rfl⟩
    go_wp2_with fail
    refine (moneyText_any n _ hm).mono ?_
    rintro e w3 ⟨s', rfl, hs', hb3⟩
    have hss : s' = s := ba_ext (hs'.trans HS.out.symm)
    subst hss
    have HB3 : Hid (Below w.heap.size w w3) := HB1.out.trans (hb3.mono HB1.out.size)
    clear hs' hb3
    go_wp2_with fail
    refine (begun _ (HT.out.below HB3.out)).mono ?_
    rintro e w4 ⟨rfl, hb4⟩
    have HB4 : Hid (Below w.heap.size w w4) := HB3.out.trans (hb4.mono HB3.out.size)
    clear hb4
    go_wp2_with fail
    refine (textIs_same _ 0 w4 (fun h => absurd rfl h)).mono ?_
    rintro e w5 ⟨rfl, rfl⟩
    go_wp2_with fail
    go_ret
    exact ⟨rfl, HB4.out⟩
end Go.Proofs.YtiaphopimdljmaaDoor
