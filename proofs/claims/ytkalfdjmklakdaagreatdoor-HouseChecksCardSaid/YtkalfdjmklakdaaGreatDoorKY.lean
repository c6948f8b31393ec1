/-
  Promise V1: the law HouseChecks: Check answers just what the reference's CheckCompany does, whatever it is handed.
-/
import Derived.Test.YtkalfdjmklakdaaGreatDoorKX
import Derived.Test.YtkalfdjmklakdaaGreatDoorKU
namespace Go.Proofs.YtkalfdjmklakdaaGreatDoor
open Go.RowKit Go.Sort
theorem quiet_load_row_g {P : Program} {ops : Array Oper} {C : World → Prop} {Q : Act → Prop} {a : Act} {o : Oper} {rest : List Oper} (ty : TypeId) (x : Operand) (ho : o.op = .load ty x) (hgd : Region.wanted o (yielded ops a.tmps) = true)
 (g : Nat) (hx : a.eval x = .pointer (some ⟨g, 0, none⟩)) (t : TypeId) (cs : Array Value) (fr : Nat × Nat) (d : TypeDesc) (hg : ∀ w, C w → w.heap[g]? = some (.cells cs t fr))
 (hu : P.underlying ty = some d) (hd : (match d with | .struct _ | .array _ _ => true | _ => false) = true) (hi : (P.info? ty).map (·.size) = some cs.size)
 (h : wpQuiet P ops C Q rest (a.put o.dst (.agg cs))) : wpQuiet P ops C Q (o :: rest) a := by
 show if Region.wanted o _ then o.quiet P a C _ else _
 rw [if_pos hgd]
 refine ⟨.agg cs, fun w hw => ?_, h⟩
 unfold Oper.quietAt execOp
 simp only [ho, hx, Instr.loadAt, Instr.sureAddr, Sem.run_bind, Sem.run_pure, Result.andThen_ok, run_loadVar_row w g t ty cs fr d (hg w hw) hu hd hi]
 exact ⟨rfl, rfl⟩
set_option maxRecDepth 100000 in
set_option maxHeartbeats 4000000 in
theorem walk_houseChecks (c : Co) (s : Ly) (w : World) (hc : CameC w s c) (hv : Vs w) :
 Calls Tryz.prog 3 #[.agg (coA c s)] w fun e w' => e = .returned (.bool true) ∧ Below w.heap.size w w' := by
 obtain ⟨F, -⟩ := Fs.some
 have HB0 := Lib.hid (kbelow_box w (.cells (coA c s) 33))
 have HX := Lib.hid (CBox.made w c s)
 have H1 : Hid (∀ w', Below w.heap.size w w' → Calls Tryz.prog 7 #[] w' fun e w'' => e = .returned (.bool true) ∧ Below w'.heap.size w' w'') := fun w' hb => houseBegun_any F w' (hv.below hb)
 have H2 : Hid (∀ w', Below w.heap.size w w' → Calls Tryz.prog 8 #[.agg (coA c s)] w' fun e w'' => e = .returned (.int .i64 (coE F c)) ∧ Below w'.heap.size w' w'') := fun w' hb => houseCheck_any F c s w' (hv.below hb) (hc.below hb)
 have H3 : Hid (∀ w', Below w.heap.size w w' → Calls Tryz.prog 9 #[.agg (coA c s)] w' fun e w'' => e = .returned (.int .i64 (coE F c)) ∧ Below w'.heap.size w' w'') := fun w' hb => checkCompany_ref F c s w' (hc.below hb)
 clear hc hv
 obtain ⟨x, hx⟩ : ∃ x, coE F c = x := ⟨_, rfl⟩
 rw [hx] at H2 H3
 clear hx
 have hxx : (x == x) = true := by simp
 go_enter Tryz.func3, Tryz.ntmps3
 go_wp2_with fail
 refine wp_region_quiet_below (by kernel_rfl) (by kernel_rfl) ?_
 repeat (first
  | go_big_quiet_step (first | exact Calls.regrown_of (H1.out _ (HB0.out.trans ((below_regrown _ _ _).mono HB0.out.size))) | exact Calls.regrown_of (H2.out _ (HB0.out.trans ((below_regrown _ _ _).mono HB0.out.size))) | exact Calls.regrown_of (H3.out _ (HB0.out.trans ((below_regrown _ _ _).mono HB0.out.size))))
  | (refine quiet_load_row_g 33 (.tmp 1) rfl (by rfl) w.heap.size rfl 33 (coA c s) (0, 0) _ (box_regrown HX.out) Tryz.underlying33 rfl (coInfo c s) ?_; dsimp only [Act.put])
  | quiet_step (first | exact Calls.regrown_of (H1.out _ (HB0.out.trans ((below_regrown _ _ _).mono HB0.out.size))) | exact Calls.regrown_of (H2.out _ (HB0.out.trans ((below_regrown _ _ _).mono HB0.out.size))) | exact Calls.regrown_of (H3.out _ (HB0.out.trans ((below_regrown _ _ _).mono HB0.out.size)))))
 refine wpQuiet_nil ?_
 intro _ hw'
 obtain ⟨⟨dq, osq⟩, hw''⟩ := hw'
 subst hw''
 have HBN := Lib.hid (HB0.out.trans ((below_regrown _ dq osq).mono HB0.out.size))
 go_wp2_with fail
 go_ret
 exact ⟨rfl, HBN.out⟩
end Go.Proofs.YtkalfdjmklakdaaGreatDoor
