/-
  Promise E2: what split's deferred closure does: of a frame that returns, nothing; of a frame that gave up, it lays the fault.
-/
import Derived.Test.YtgiacemmigjloaaDoorTSign
import Derived.Defers
import Derived.Laws.Pointers
namespace Go.Proofs.YtgiacemmigjloaaDoor
open Go.RowKit

theorem catch_idle (p q : Addr) (w : World) :
    CallsD Tryd.prog 20 #[.pointer (some p), .pointer (some q)] .returning w fun e u' w' => e = .returned (.tuple #[]) ∧ u' = .returning ∧ w' = w := by
  refine callsD_of_wpS Tryd.func20 rfl fun c₀ cs hu => ?_
  apply wpS_seq
  apply wpS_region
  simp [wpOpsS, go_sem, recoverD, hu, Tryd.ntmps20, Exit.thenS]
  apply wpS_seq
  apply wpS_region
  simp [wpOpsS, go_sem, Exit.thenS, Array.replicate]
  refine wpS_cond (t := false) (by simp [Act.eval]) ?_
  simp only [Bool.false_eq_true, if_false]
  refine wpS_of_wp (wp_skip ?_)
  cases c₀
  simp_all [bodyPostS, results, Tryd.results20]
theorem assert_wrong (v : Value) (w : World) : (Instr.typeAssert (.iface 36 v) 20 36 false).run Tryd.prog w = .ok v w := by kernel_rfl
theorem catch_gone (p q : Nat) (e a : Int) (w : World) (v : Value) (hp : w.cell? ⟨p, 0, none⟩ = some v) (hz : w.frozen? ⟨p, 0, none⟩ = false) (h0 : w.cell? ⟨q, 0, none⟩ = some (.int .i64 0)) (h1 : w.cell? ⟨q, 1, none⟩ = some (.int .i64 0)) (z0 : w.frozen? ⟨q, 0, none⟩ = false) (z1 : w.frozen? ⟨q, 1, none⟩ = false) (hpq : p < q) :
    CallsD Tryd.prog 20 #[.pointer (some ⟨p, 0, none⟩), .pointer (some ⟨q, 0, none⟩)] (.panicking (gone e a)) w fun x u' w' => x = .returned (.tuple #[]) ∧ u' = .panicking [{ v := .iface 36 (.agg #[.int .i64 e, .int .i64 a]), recovered := true }] ∧ w' = (((w.setCell ⟨p, 0, none⟩ (.slice none 0 0)).setCell ⟨q, 0, none⟩ (.int .i64 e)).setCell ⟨q, 1, none⟩ (.int .i64 a)).drew := by
  refine callsD_of_wpS Tryd.func20 rfl fun c₀ cs hu => ?_
  apply wpS_seq
  apply wpS_region
  simp [wpOpsS, go_sem, recoverD, hu, gone, Tryd.ntmps20, Exit.thenS]
  apply wpS_seq
  apply wpS_region
  simp [wpOpsS, go_sem, Exit.thenS, Array.replicate]
  refine wpS_cond (t := true) (by simp [Act.eval]) ?_
  simp only [if_true]
  refine wpS_of_wp ?_
  have has := assert_wrong (.agg #[.int .i64 e, .int .i64 a])
  go_region
  simp [bodyPostS, results, Tryd.results20]
end Go.Proofs.YtgiacemmigjloaaDoor
