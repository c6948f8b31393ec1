/-
  Promise F2: the walk of the reference's WrongExpr, over whatever expression (written by xerrgen.py, kind by kind).
-/
import Derived.Test.YtoingnhiipfnlaaDoorXErr1
import Derived.Test.YtoingnhiipfnlaaDoorXErr2
import Derived.Test.YtoingnhiipfnlaaDoorXErr3
import Derived.Test.YtoingnhiipfnlaaDoorXErr4
namespace Go.Proofs.YtoingnhiipfnlaaDoor
open Go.RowKit

set_option maxRecDepth 100000 in
set_option maxHeartbeats 4000000 in
theorem wrongExpr_ref (x : Ex) : WrongIs x := by
  induction x with
  | no => intro a c w h; exact h.elim
  | mk k n s m kid ih =>
    by_cases hk : 1 ≤ k ∧ k ≤ 13
    · have h : k = 1 ∨ k = 2 ∨ k = 3 ∨ k = 4 ∨ k = 5 ∨ k = 6 ∨ k = 7 ∨ k = 8 ∨ k = 9 ∨ k = 10 ∨ k = 11 ∨ k = 12 ∨ k = 13 := by omega
      rcases h with rfl | rfl | rfl | rfl | rfl | rfl | rfl | rfl | rfl | rfl | rfl | rfl | rfl
      · exact wrong_1 n s m kid ih
      · exact wrong_2 n s m kid ih
      · exact wrong_3 n s m kid ih
      · exact wrong_4 n s m kid ih
      · exact wrong_5 n s m kid ih
      · exact wrong_6 n s m kid ih
      · exact wrong_7 n s m kid ih
      · exact wrong_8 n s m kid ih
      · exact wrong_9 n s m kid ih
      · exact wrong_10 n s m kid ih
      · exact wrong_11 n s m kid ih
      · exact wrong_12 n s m kid ih
      · exact wrong_13 n s m kid ih
    · intro a c w hk'
      show Calls Tryd.prog 40 #[.agg #[.int .i64 k, .int .i64 n, .string s, .slice a m c]] w _
      have HM := Lib.hid (err_mk k n s m kid)
      have HB0 := Lib.hid (kbelow_box w (.cells #[.int .i64 k, .int .i64 n, .string s, .slice a m c] 50))
      have HR : Hid ((Ex.mk k n s m kid).err = 7) := by unfold Hid; rw [HM.out, ownE_kind (by omega)]; rfl
      clear HM hk' ih
      generalize (Ex.mk k n s m kid).err = z at *
      by_cases hk1 : k < 1
      · go_enter Tryd.func40, Tryd.ntmps40
        go_wp2_with fail
        go_ret
        exact ⟨kret_int HR.out.symm, HB0.out⟩
      · have hk1B : decide (k < 1) = false := decide_eq_false hk1
        have hk2 : 13 < k := by omega
        go_enter Tryd.func40, Tryd.ntmps40
        go_wp2_with fail
        go_ret
        exact ⟨kret_int HR.out.symm, HB0.out⟩
end Go.Proofs.YtoingnhiipfnlaaDoor
