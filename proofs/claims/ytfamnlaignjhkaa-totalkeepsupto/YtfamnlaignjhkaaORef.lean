/-
  Promises M2, M4: the reference's GatherTotals: steps of its regions.
-/
import Derived.Test.YtfamnlaignjhkaaOTurn
import Derived.ArgAppend
import Derived.BigQuiet
namespace Go.Proofs.Ytfamnlaignjhkaa
open Go.RowKit Go.Sort

theorem run_app_any (w : World) (ty : TypeId) (B : Nat) (v : Value) (l : List Tt) (hown : GrowO w B v l) (ad : Addr) (m c : Nat) (news : List Tt) (hsrc : CameO w (some ad) news) (hm : news.length = m)
    (hb : (l.length + m) * 40 ≤ 140737488355328) (hB : B ≤ w.heap.size) :
    ∃ v' w', (Builtin.append_ #[22, 22] ty #[v, .slice (some ad) m c]).run Try.prog w = .ok v' w' ∧ GrowO w' B v' (l ++ news) ∧ w.grownBy w' v.ownBlock ∧ Go.RowKit.Below B w w' := by
  rcases hsrc with h0 | ⟨b, off, e, hat⟩
  · obtain rfl := List.eq_nil_of_length_eq_zero h0
    obtain rfl : m = 0 := by simpa using hm.symm
    rw [List.append_nil]
    exact run_app_none w ty B v l hown ad c (by omega) hB
  · injection e with e
    subst e
    exact run_app_tts w ty B v l hown b off m c news hat hm hb hB
/-- A step: append onto a row of the call's own. -/
theorem step_app_own {ops : Array Oper} {o : Oper} {a : Act} {K : Act → World → Prop} {Q : Exit → Act → World → Prop} {E : Prop} (w : World) (hgd : o.guard = none) (s x : Operand)
    (ho : o.op = .call { callee := .builtin .append, args := #[s, x], argTypes := #[22, 22] })
    (B : Nat) (v : Value) (l : List Tt) (hs : a.eval s = v) (hown : GrowO w B v l) (ad : Addr) (m c : Nat) (news : List Tt) (hx : a.eval x = .slice (some ad) m c) (hsrc : CameO w (some ad) news) (hm : news.length = m)
    (hb : (l.length + m) * 40 ≤ 140737488355328) (hB : B ≤ w.heap.size)
    (h : ∀ v' w', GrowO w' B v' (l ++ news) → Go.RowKit.Below B w w' → w.grownBy w' v.ownBlock → K (a.put o.dst v') w') :
    if Region.wanted o (yielded ops a.tmps) = true then Oper.wp Try.prog o a w K Q else E := by
  have hw : Region.wanted o (yielded ops a.tmps) = true := by simp [Region.wanted, hgd]
  rw [if_pos hw]
  obtain ⟨v', w', hr, h2, h3, h4⟩ := run_app_any w o.type B v l hown ad m c news hsrc hm hb hB
  unfold Oper.wp execOp
  simp only [ho, resolve, invoke, builtin, Sem.run_bind, Sem.run_pure, Result.andThen_ok, List.map_toArray, List.map_cons, List.map_nil, hs, hx, hr]
  exact h v' w' h2 h4 h3
/-- A step: append onto a slice that has no room: a new row. -/
theorem step_app_new {ops : Array Oper} {o : Oper} {a : Act} {K : Act → World → Prop} {Q : Exit → Act → World → Prop} {E : Prop} (w : World) (hgd : o.guard = none) (s x : Operand)
    (ho : o.op = .call { callee := .builtin .append, args := #[s, x], argTypes := #[22, 22] })
    (g n : Nat) (l : List Tt) (hs : a.eval s = .slice (some ⟨g, 0, none⟩) n n) (hl : l.length = n) (hold : OAt w g 0 l) (g2 m c : Nat) (news : List Tt) (hx : a.eval x = .slice (some ⟨g2, 0, none⟩) m c) (hsrc : OAt w g2 0 news) (hm : news.length = m) (h1 : 1 ≤ m)
    (hb : (n + m) * 40 ≤ 140737488355328)
    (h : ∀ v' w', GrowO w' w.heap.size v' (l ++ news) → Go.RowKit.Below w.heap.size w w' → K (a.put o.dst v') w') :
    if Region.wanted o (yielded ops a.tmps) = true then Oper.wp Try.prog o a w K Q else E := by
  have hw : Region.wanted o (yielded ops a.tmps) = true := by simp [Region.wanted, hgd]
  rw [if_pos hw]
  obtain ⟨i0, hi, hz0, hz1, hz2⟩ := info_parts tt_info
  have c1 : ∀ j u, (cellsO l)[j]? = some u → w.cell? ((⟨g, 0, none⟩ : Addr).add j) = some u := fun j u hu => by rw [Addr.add_lit]; exact holds_of_oat hold j u hu
  have c2 : ∀ j u, (cellsO news)[j]? = some u → w.cell? ((⟨g2, 0, none⟩ : Addr).add j) = some u := fun j u hu => by rw [Addr.add_lit]; exact holds_of_oat hsrc j u hu
  obtain ⟨v', w', hr, h2, h3⟩ := run_append_arg_grows (P := Try.prog) w 22 o.type 50 i0 _ 4 40 Try.underlying22 hi hz0 hz1 hz2 rfl (by decide) ⟨g, 0, none⟩ n n (cellsO l) (by rw [cellsO_length, hl]) c1 ⟨g2, 0, none⟩ m c (cellsO news) (by rw [cellsO_length, hm]) c2 (by omega) (by unfold maxLen; omega) hb
  have h2' : GrowO w' w.heap.size v' (l ++ news) := by
    unfold GrowO
    rw [List.length_append, cellsO_append, hm, hl]
    exact h2
  unfold Oper.wp execOp
  simp only [ho, resolve, invoke, builtin, Sem.run_bind, Sem.run_pure, Result.andThen_ok, List.map_toArray, List.map_cons, List.map_nil, hs, hx, hr]
  exact h v' w' h2' ((Below.refl w.heap.size w).grown h3 (Nat.le_refl _) fun k hk => by cases hk)
/-- A step: an append whose run is known. -/
theorem step_app_run {ops : Array Oper} {o : Oper} {a : Act} {K : Act → World → Prop} {Q : Exit → Act → World → Prop} {E : Prop} (w : World) (hgd : o.guard = none) (s x : Operand) (t : TypeId)
    (ho : o.op = .call { callee := .builtin .append, args := #[s, x], argTypes := #[t, t] })
    (vs vx : Value) (hs : a.eval s = vs) (hx : a.eval x = vx) (v' : Value) (w' : World) (hr : (Builtin.append_ #[t, t] o.type #[vs, vx]).run Try.prog w = .ok v' w') (h : K (a.put o.dst v') w') :
    if Region.wanted o (yielded ops a.tmps) = true then Oper.wp Try.prog o a w K Q else E := by
  have hw : Region.wanted o (yielded ops a.tmps) = true := by simp [Region.wanted, hgd]
  rw [if_pos hw]
  unfold Oper.wp execOp
  simp only [ho, resolve, invoke, builtin, Sem.run_bind, Sem.run_pure, Result.andThen_ok, List.map_toArray, List.map_cons, List.map_nil, hs, hx, hr]
  exact h
theorem run_onto_none (g : Nat) (ty : TypeId) (w : World) : (Builtin.append_ #[22, 22] ty #[.slice (some ⟨g, 0, none⟩) 1 1, .slice none 0 0]).run Try.prog w = .ok (.slice (some ⟨g, 0, none⟩) 1 1) w := by
  obtain ⟨i0, hi, hz0, hz1, hz2⟩ := info_parts tt_info
  simp [Builtin.append_, run_underlying Try.underlying22, sizeOf, typeInfo, hi, Builtin.lenOf, Builtin.firstCells, storeCells]
theorem GrowO.one (w : World) (p y m : Int) (s : ByteArray) (B : Nat) (hB : B ≤ w.heap.size) : GrowO (w.alloc (.cells #[.int .i64 p, .string s, .int .i64 y, .int .i64 m] 50)) B (.slice (some ⟨w.heap.size, 0, none⟩) 1 1) [⟨p, s, y, m⟩] :=
  ⟨rfl, .inr ⟨w.heap.size, 1, #[.int .i64 p, .string s, .int .i64 y, .int .i64 m], rfl, hB, heap_alloc_new w _, Nat.le_refl _, by unfold maxLen; omega, rfl, rfl⟩⟩
theorem OAt.take {w : World} {g off : Nat} {F : List Tt} (h : OAt w g off F) (j : Nat) : OAt w g off (F.take j) := by
  refine ⟨h.1, fun i hi => ?_⟩
  rw [List.length_take] at hi
  have e : onth (F.take j) i = onth F i := by
    unfold onth
    rw [List.getD_eq_getElem?_getD, List.getElem?_take, if_pos (by omega), List.getD_eq_getElem?_getD]
  rw [e]
  exact h.2 i (by omega)
theorem OAt.drop {w : World} {g : Nat} {F : List Tt} (h : OAt w g 0 F) (j : Nat) : OAt w g (j * 4) (F.drop j) := by
  refine ⟨h.1, fun i hi => ?_⟩
  rw [List.length_drop] at hi
  have e : onth (F.drop j) i = onth F (j + i) := by
    unfold onth
    rw [List.getD_eq_getElem?_getD, List.getElem?_drop, List.getD_eq_getElem?_getD]
  rw [e]
  have := h.2 (j + i) (by omega)
  rw [Nat.zero_add] at this
  rw [show j * 4 + i * 4 = (j + i) * 4 by omega]
  exact this
theorem filter_step {F : List Tt} {k : Nat} (hk : k < F.length) : (F.take (k + 1)).filter (fun x => !(x.mon == 0)) = (F.take k).filter (fun x => !(x.mon == 0)) ++ (if (onth F k).mon == 0 then [] else [onth F k]) := by
  rw [otake_snoc hk, List.filter_append]
  congr 1
  cases h : ((onth F k).mon == 0) <;> simp [List.filter, h]
theorem filter_len {F : List Tt} {k : Nat} : ((F.take k).filter (fun x => !(x.mon == 0))).length ≤ F.length := Nat.le_trans (List.length_filter_le _ _) (by rw [List.length_take]; omega)
end Go.Proofs.Ytfamnlaignjhkaa
