/-
  The walk of the law MoneyBack: it answers true at every int and every text of at most 2^47 - 4096 bytes, in every world that holds the library's table.
-/
import Derived.Test.YtiaphopimdljmaaDoorMBegun
import Derived.Test.YtiaphopimdljmaaDoorMBack
namespace Go.Proofs.YtiaphopimdljmaaDoor
open Go.RowKit

set_option maxHeartbeats 1000000 in
theorem walk_moneyBack (n : Int) (_ : (Lit.int .i64 n).wf = true) (s : ByteArray) (hs : s.size ≤ 140737488351232) (w : World) (ht : Tab w) :
    Calls Tryd.prog 10 #[.int .i64 n, .string s] w fun e w' => e = .returned (.bool true) ∧ Below w.heap.size w w' := by
  have HT := Lib.hid ht
  clear ht
  cases hm : monB n
  · go_enter Tryd.func10, Tryd.ntmps10
    go_wp2_with fail
    refine (begun _ HT.out).mono ?_
    rintro e w1 ⟨rfl, hb1⟩
    have HB1 := Lib.hid hb1
    clear hb1
    go_wp2_with fail
    refine (print_bad n _ hm).mono ?_
    rintro e w2 ⟨rfl, rfl⟩
    go_wp2_with fail
    refine (read_any s _ hs).mono ?_
    rintro e w5 ⟨rfl, hb5⟩
    have HB5 : Hid (Below w.heap.size w w5) := by
      have h := HB1.out
      exact h.trans (hb5.mono h.size)
    clear hb5
    by_cases hE : rmE s = 0
    · obtain ⟨q1, q2⟩ := read_print hE
      have Q2 := Lib.hid q2
      have hE' : (rmE s != 0) = false := by simp [hE]
      clear q2
      rw [hE]
      clear hE
      generalize rmN s = M at *
      go_wp2_with fail
      refine (print_ok M _ q1 (HT.out.below (HB5.out.alloc HB5.out.size _))).mono ?_
      rintro e w6 ⟨t, rfl, ht, hb6⟩
      have hts : t = s := ba_ext (ht.trans Q2.out)
      subst hts
      have HB6 : Hid (Below w.heap.size w w6) := (HB5.out.alloc HB5.out.size _).trans (hb6.mono (by have := HB5.out.size; simp; omega))
      clear ht hb6
      go_wp2_with fail
      go_ret
      exact ⟨ret_bool (by simp), HB6.out⟩
    · have hE' : (rmE s != 0) = true := by simp [hE]
      go_wp2_with fail
      go_ret
      exact ⟨rfl, HB5.out.alloc HB5.out.size _⟩
  · go_enter Tryd.func10, Tryd.ntmps10
    go_wp2_with fail
    refine (begun _ HT.out).mono ?_
    rintro e w1 ⟨rfl, hb1⟩
    have HB1 := Lib.hid hb1
    clear hb1
    go_wp2_with fail
    refine (print_ok n _ hm (HT.out.below HB1.out)).mono ?_
    rintro e w2 ⟨t, rfl, ht, hb2⟩
    have HB2 : Hid (Below w.heap.size w w2) := HB1.out.trans (hb2.mono HB1.out.size)
    obtain ⟨r1, r2⟩ := print_read hm ht
    have hsz : t.size ≤ 140737488351232 := by
      rw [size_toList, ht]
      have := print_len hm
      omega
    have R1 := Lib.hid r1
    have R2 := Lib.hid r2
    clear hb2 ht r1 r2
    go_wp2_with fail
    refine (read_any t _ hsz).mono ?_
    rintro e w3 ⟨rfl, hb3⟩
    have HB3 : Hid (Below w.heap.size w w3) := HB2.out.trans (hb3.mono HB2.out.size)
    rw [R1.out, R2.out]
    clear hb3
    go_wp2_with fail
    refine (read_any s _ hs).mono ?_
    rintro e w5 ⟨rfl, hb5⟩
    have HB5 : Hid (Below w.heap.size w w5) := by
      have h := (HB3.out.alloc HB3.out.size (.cells #[.int .i64 0, .int .i64 (rmA t)] 39))
      exact h.trans (hb5.mono h.size)
    clear hb5
    by_cases hE : rmE s = 0
    · obtain ⟨q1, q2⟩ := read_print hE
      have Q2 := Lib.hid q2
      have hE' : (rmE s != 0) = false := by simp [hE]
      clear q2
      rw [hE]
      clear hE
      generalize rmN s = M at *
      go_wp2_with fail
      refine (print_ok M _ q1 (HT.out.below (HB5.out.alloc HB5.out.size _))).mono ?_
      rintro e w6 ⟨t, rfl, ht, hb6⟩
      have hts : t = s := ba_ext (ht.trans Q2.out)
      subst hts
      have HB6 : Hid (Below w.heap.size w w6) := (HB5.out.alloc HB5.out.size _).trans (hb6.mono (by have := HB5.out.size; simp; omega))
      clear ht hb6
      go_wp2_with fail
      go_ret
      exact ⟨ret_bool (by simp), HB6.out⟩
    · have hE' : (rmE s != 0) = true := by simp [hE]
      go_wp2_with fail
      go_ret
      exact ⟨rfl, HB5.out.alloc HB5.out.size _⟩
end Go.Proofs.YtiaphopimdljmaaDoor
