/-
  Promise G4: the walk of the reference's BothTables.
-/
import Derived.Test.YtmiijmgidbbmhaaKIns
import Derived.Deep.RegionHeld3
import Derived.Deep.RegionLaw
namespace Go.Proofs.Ytmiijmgidbbmhaa
open Go.RowKit

theorem frm_cell {F : List Int} {w : World} {g : Nat} (h : At w g 0 F) {a : Nat} : ∀ j u, ((F.drop a).map (Value.int .i64))[j]? = some u → w.cell? ((⟨g, a, none⟩ : Addr).add j) = some u := by
  intro j u hu
  rw [List.getElem?_map, List.getElem?_drop] at hu
  have hj : a + j < F.length := by
    by_cases c : a + j < F.length
    · exact c
    · rw [List.getElem?_eq_none (by omega)] at hu; cases hu
  rw [List.getElem?_eq_getElem hj] at hu
  simp at hu
  subst hu
  rw [Addr.add_lit]
  have := h.2 (a + j) hj
  rw [Nat.zero_add] at this
  rw [this]
  simp [nth, List.getD_eq_getElem?_getD, hj]
theorem frm_head {F : List Int} {w : World} {g : Nat} (h : At w g 0 F) {a : Nat} : ∀ j u, ((F.take a).map (Value.int .i64))[j]? = some u → w.cell? ((⟨g, 0, none⟩ : Addr).add j) = some u := by
  intro j u hu
  rw [List.getElem?_map] at hu
  have hj : j < (F.take a).length := by
    by_cases c : j < (F.take a).length
    · exact c
    · rw [List.getElem?_eq_none (by omega)] at hu; cases hu
  rw [List.getElem?_eq_getElem hj] at hu
  simp at hu
  subst hu
  rw [List.length_take] at hj
  rw [Addr.add_lit, Nat.zero_add]
  have := h.2 j (by omega)
  rw [Nat.zero_add] at this
  rw [this]
  simp [nth, List.getD_eq_getElem?_getD, show j < F.length by omega]
/-- A step: append onto a row of the call's own. -/
theorem step_app_own {ops : Array Oper} {o : Oper} {a : Act} {K : Act → World → Prop} {Q : Exit → Act → World → Prop} {E : Prop} (w : World) (hgd : o.guard = none) (s x : Operand)
    (ho : o.op = .call { callee := .builtin .append, args := #[s, x], argTypes := #[54, 54] })
    (B : Nat) (v : Value) (l : List Int) (hs : a.eval s = v) (hown : GrowI w B v l) (ad : Addr) (m c : Nat) (news : List Int) (hx : a.eval x = .slice (some ad) m c) (hsrc : ∀ j u, (news.map (Value.int .i64))[j]? = some u → w.cell? (ad.add j) = some u) (hm : news.length = m)
    (hb : (l.length + m) * 8 ≤ 140737488355328) (hB : B ≤ w.heap.size)
    (h : ∀ v' w', GrowI w' B v' (l ++ news) → Below B w w' → w.grownBy w' v.ownBlock → K (a.put o.dst v') w') :
    if Region.wanted o (yielded ops a.tmps) = true then Oper.wp Try.prog o a w K Q else E := by
  have hw : Region.wanted o (yielded ops a.tmps) = true := by simp [Region.wanted, hgd]
  rw [if_pos hw]
  obtain ⟨i0, hi, hz0, hz1, hz2⟩ := info_parts int_info
  obtain ⟨v', w', hr, h2, h3, _, h5⟩ := run_append_own_at (P := Try.prog) w B 54 o.type 3 i0 _ 1 8 Try.underlying54 hi hz0 hz1 hz2 rfl (by decide) v l.length (l.map (Value.int .i64)) hown ad m c (news.map (Value.int .i64)) (by rw [List.length_map, hm]; omega) hsrc (by intro u hu; obtain ⟨z, _, rfl⟩ := List.mem_map.1 hu; rfl) (by unfold maxLen; omega) hb hB
  have h2' : GrowI w' B v' (l ++ news) := by
    unfold GrowI
    rw [List.length_append, List.map_append, hm]
    exact h2
  unfold Oper.wp execOp
  simp only [ho, resolve, invoke, builtin, Sem.run_bind, Sem.run_pure, Result.andThen_ok, List.map_toArray, List.map_cons, List.map_nil, hs, hx, hr]
  exact h v' w' h2' ((Below.refl B w).grown h3 hB fun k hk => (GrowI.lt hown k hk).1) h3
/-- A step: append onto a slice that has no room: a new row. -/
theorem step_app_new {ops : Array Oper} {o : Oper} {a : Act} {K : Act → World → Prop} {Q : Exit → Act → World → Prop} {E : Prop} (w : World) (hgd : o.guard = none) (s x : Operand)
    (ho : o.op = .call { callee := .builtin .append, args := #[s, x], argTypes := #[54, 54] })
    (b : Addr) (n : Nat) (l : List Int) (hs : a.eval s = .slice (some b) n n) (hl : l.length = n) (hold : ∀ j u, (l.map (Value.int .i64))[j]? = some u → w.cell? (b.add j) = some u) (ad : Addr) (m c : Nat) (news : List Int) (hx : a.eval x = .slice (some ad) m c) (hsrc : ∀ j u, (news.map (Value.int .i64))[j]? = some u → w.cell? (ad.add j) = some u) (hm : news.length = m) (h1 : 1 ≤ m)
    (hb : (n + m) * 8 ≤ 140737488355328)
    (h : ∀ v' w', GrowI w' w.heap.size v' (l ++ news) → Below w.heap.size w w' → K (a.put o.dst v') w') :
    if Region.wanted o (yielded ops a.tmps) = true then Oper.wp Try.prog o a w K Q else E := by
  have hw : Region.wanted o (yielded ops a.tmps) = true := by simp [Region.wanted, hgd]
  rw [if_pos hw]
  obtain ⟨i0, hi, hz0, hz1, hz2⟩ := info_parts int_info
  obtain ⟨v', w', hr, h2, h3⟩ := run_append_arg_grows (P := Try.prog) w 54 o.type 3 i0 _ 1 8 Try.underlying54 hi hz0 hz1 hz2 rfl (by decide) b n n (l.map (Value.int .i64)) (by rw [List.length_map, hl]; omega) hold ad m c (news.map (Value.int .i64)) (by rw [List.length_map, hm]; omega) hsrc (by omega) (by unfold maxLen; omega) hb
  have h2' : GrowI w' w.heap.size v' (l ++ news) := by
    unfold GrowI
    rw [List.length_append, List.map_append, hm, hl]
    exact h2
  unfold Oper.wp execOp
  simp only [ho, resolve, invoke, builtin, Sem.run_bind, Sem.run_pure, Result.andThen_ok, List.map_toArray, List.map_cons, List.map_nil, hs, hx, hr]
  exact h v' w' h2' ((Below.refl w.heap.size w).grown h3 (Nat.le_refl _) fun k hk => by cases hk)
/-- A step: an append whose run is known. -/
theorem step_app_run {ops : Array Oper} {o : Oper} {a : Act} {K : Act → World → Prop} {Q : Exit → Act → World → Prop} {E : Prop} (w : World) (hgd : o.guard = none) (s x : Operand) (t : TypeId)
    (ho : o.op = .call { callee := .builtin .append, args := #[s, x], argTypes := #[t, t] })
    (vs vx : Value) (hs : a.eval s = vs) (hx : a.eval x = vx) (v' : Value) (w' : World) (hr : (Builtin.append_ #[t, t] o.type #[vs, vx]).run Try.prog w = .ok v' w') (h : K (a.put o.dst v') w') :
    if Region.wanted o (yielded ops a.tmps) = true then Oper.wp Try.prog o a w K Q else E := by
  have hw : Region.wanted o (yielded ops a.tmps) = true := by simp [Region.wanted, hgd]
  rw [if_pos hw]
  unfold Oper.wp execOp
  simp only [ho, resolve, invoke, builtin, Sem.run_bind, Sem.run_pure, Result.andThen_ok, List.map_toArray, List.map_cons, List.map_nil, hs, hx, hr]
  exact h
theorem run_onto_none (g : Nat) (ty : TypeId) (w : World) : (Builtin.append_ #[54, 54] ty #[.slice (some ⟨g, 0, none⟩) 1 1, .slice none 0 0]).run Try.prog w = .ok (.slice (some ⟨g, 0, none⟩) 1 1) w := by
  obtain ⟨i0, hi, hz0, hz1, hz2⟩ := info_parts int_info
  simp [Builtin.append_, run_underlying Try.underlying54, sizeOf, typeInfo, hi, Builtin.lenOf, Builtin.firstCells, storeCells]
theorem GrowI.one (w : World) (f : Int) (B : Nat) (hB : B ≤ w.heap.size) : GrowI (w.alloc (.cells #[.int .i64 f] 3)) B (.slice (some ⟨w.heap.size, 0, none⟩) 1 1) [f] :=
  ⟨rfl, .inr ⟨w.heap.size, 1, #[.int .i64 f], rfl, hB, heap_alloc_new w _, Nat.le_refl _, by unfold maxLen; omega, rfl, rfl⟩⟩
end Go.Proofs.Ytmiijmgidbbmhaa
