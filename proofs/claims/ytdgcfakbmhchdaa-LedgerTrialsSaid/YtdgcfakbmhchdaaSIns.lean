/-
  Amounts in a row of the call's own, in which money is changed and amounts are put in: how they lie, appends and parts.
-/
import Derived.Test.YtdgcfakbmhchdaaSMap
import Derived.ArgAppend
import Derived.Deep.RegionHeld3
namespace Go.Proofs.Ytdgcfakbmhchdaa
open Go.RowKit Go.Sort

/-- The amounts F lie in a row of the call's own, from block B on, that may be written. -/
def OwnA (w : World) (B : Nat) (x : Option Addr) (c : Nat) (F : List Am) : Prop := (x = none ∧ c = 0 ∧ F = []) ∨ ∃ g, x = some ⟨g, 0, none⟩ ∧ B ≤ g ∧ AAt w g 0 F ∧ F.length ≤ c ∧ c ≤ maxLen ∧ ∀ j, j < F.length → w.frozen? ⟨g, j * 2 + 1, none⟩ = false
theorem OwnA.of {w : World} {B : Nat} {v : Value} {l : List Am} (h : GrowA w B v l) : ∃ x c, v = .slice x l.length c ∧ OwnA w B x c l := by
  have hh := h
  rcases h.form with ⟨h1, h2⟩ | ⟨g, c, h1, h2, h3, h4⟩
  · subst h2
    exact ⟨none, 0, h1, .inl ⟨rfl, rfl, rfl⟩⟩
  · refine ⟨_, c, h1, .inr ⟨g, rfl, h2, h3, ?_⟩⟩
    rcases hh.2 with ⟨e1, _⟩ | ⟨g', c', cur, e1, _, hg, hn, hm, hs, _⟩
    · rw [h1] at e1; cases e1
    · rw [h1] at e1
      injection e1 with e1 e2 e3
      subst e3
      injection e1 with e1
      injection e1 with e1
      subst e1
      exact ⟨hn, hm, fun j hj => by simp [World.frozen?, hg]⟩
theorem OwnA.below {w w' : World} {B : Nat} {x : Option Addr} {c : Nat} {l : List Am} (h : OwnA w B x c l) (hb : Go.RowKit.Below w.heap.size w w') : OwnA w' B x c l := by
  rcases h with h | ⟨g, h1, h2, h3, h4, h5, h6⟩
  · exact .inl h
  · exact .inr ⟨g, h1, h2, h3.below hb h3.1, h4, h5, fun j hj => by rw [hb.frozen (p := ⟨g, j * 2 + 1, none⟩) h3.1]; exact h6 j hj⟩
theorem OwnA.mono {w : World} {B B' : Nat} {x : Option Addr} {c : Nat} {l : List Am} (h : OwnA w B x c l) (hB : B' ≤ B) : OwnA w B' x c l := by
  rcases h with h | ⟨g, h1, h2, h3⟩
  · exact .inl h
  · exact .inr ⟨g, h1, Nat.le_trans hB h2, h3⟩
theorem OwnA.came {w : World} {B : Nat} {x : Option Addr} {c : Nat} {l : List Am} (h : OwnA w B x c l) : CameA w x l := by
  rcases h with ⟨_, _, h⟩ | ⟨g, h1, _, h3, _⟩
  · exact .inl (by rw [h]; rfl)
  · exact .inr ⟨g, 0, h1, h3⟩
theorem OwnA.cap {w : World} {B : Nat} {x : Option Addr} {c : Nat} {l : List Am} (h : OwnA w B x c l) : l.length ≤ c ∧ c ≤ maxLen := by
  rcases h with ⟨_, h, h2⟩ | ⟨g, _, _, _, h4, h5, _⟩
  · rw [h, h2]; exact ⟨Nat.le_refl _, Nat.zero_le _⟩
  · exact ⟨h4, h5⟩
theorem AAt.take {w : World} {g off : Nat} {F : List Am} (h : AAt w g off F) (j : Nat) : AAt w g off (F.take j) := by
  refine ⟨h.1, fun i hi => ?_⟩
  rw [List.length_take] at hi
  have e : anth (F.take j) i = anth F i := by
    unfold anth
    rw [List.getD_eq_getElem?_getD, List.getElem?_take, if_pos (by omega), List.getD_eq_getElem?_getD]
  rw [e]
  exact h.2 i (by omega)
theorem AAt.drop {w : World} {g off : Nat} {F : List Am} (h : AAt w g off F) (j : Nat) : AAt w g (off + j * 2) (F.drop j) := by
  refine ⟨h.1, fun i hi => ?_⟩
  rw [List.length_drop] at hi
  have e : anth (F.drop j) i = anth F (j + i) := by
    unfold anth
    rw [List.getD_eq_getElem?_getD, List.getElem?_drop, List.getD_eq_getElem?_getD]
  rw [e, show off + j * 2 + i * 2 = off + (j + i) * 2 from by omega]
  exact h.2 (j + i) (by omega)
/-- Money put at a place. -/
def putA (F : List Am) (j : Nat) (m : Int) : List Am := F.take j ++ (⟨(anth F j).name, m⟩ :: F.drop (j + 1))
theorem putA_len {F : List Am} {j : Nat} {m : Int} (hj : j < F.length) : (putA F j m).length = F.length := by
  unfold putA
  simp only [List.length_append, List.length_take, List.length_cons, List.length_drop]
  omega
theorem anth_putA {F : List Am} {j i : Nat} {m : Int} (hj : j < F.length) : anth (putA F j m) i = if i = j then ⟨(anth F j).name, m⟩ else anth F i := by
  unfold putA
  have hl : (F.take j).length = j := by rw [List.length_take]; omega
  unfold anth
  rw [List.getD_eq_getElem?_getD]
  rcases (show i < j ∨ i = j ∨ j < i by omega) with h | h | h
  · rw [List.getElem?_append_left (by omega), if_neg (by omega), List.getElem?_take, if_pos h, List.getD_eq_getElem?_getD]
  · subst h
    rw [List.getElem?_append_right (by omega), if_pos rfl, hl, Nat.sub_self]
    rfl
  · rw [List.getElem?_append_right (by omega), if_neg (by omega), hl, show i - j = (i - j - 1) + 1 by omega, List.getElem?_cons_succ, List.getElem?_drop, List.getD_eq_getElem?_getD, show j + 1 + (i - j - 1) = i by omega]
theorem OwnA.put {w : World} {B g c : Nat} {F : List Am} (h : OwnA w B (some ⟨g, 0, none⟩) c F) {j : Nat} (hj : j < F.length) (m : Int) : OwnA (w.setCell ⟨g, j * 2 + 1, none⟩ (.int .i64 m)) B (some ⟨g, 0, none⟩) c (putA F j m) := by
  rcases h with ⟨h, _, _⟩ | ⟨g', e, hB, hat, h4, h5, h6⟩
  · cases h
  cases e
  refine .inr ⟨g, rfl, hB, ⟨by simp; exact hat.1, fun i hi => ?_⟩, by rw [putA_len hj]; exact h4, h5, fun i hi => by rw [World.frozen?_setCell]; exact h6 i (by rw [putA_len hj] at hi; exact hi)⟩
  rw [putA_len hj] at hi
  rw [anth_putA hj, Nat.zero_add]
  obtain ⟨c0, c1⟩ := hat.2 i hi
  rw [Nat.zero_add] at c0 c1
  have other : ∀ o, o ≠ j * 2 + 1 → ∀ u, w.cell? ⟨g, o, none⟩ = some u → (w.setCell ⟨g, j * 2 + 1, none⟩ (.int .i64 m)).cell? ⟨g, o, none⟩ = some u := fun o ho u hu => by
    rw [World.cell?_setCell_other (h := fun e => by injection e; omega)]
    exact hu
  by_cases e : i = j
  · subst e
    rw [if_pos rfl]
    exact ⟨other _ (by omega) _ c0, World.cell?_setCell_same _ _ _ c1⟩
  · rw [if_neg e]
    exact ⟨other _ (by omega) _ c0, other _ (by omega) _ c1⟩
set_option maxRecDepth 100000 in
/-- Appending whatever lies there onto a row of the call's own. -/
theorem run_app_am (w : World) (ty : TypeId) (B : Nat) (v : Value) (l : List Am) (hown : GrowA w B v l) (src : Option Addr) (m c : Nat) (news : List Am) (hsrc : CameA w src news) (hm : news.length = m)
    (hb : (l.length + m) * 24 ≤ 140737488355328) (hB : B ≤ w.heap.size) :
    ∃ v' w', (Builtin.append_ #[49, 49] ty #[v, .slice src m c]).run Try.prog w = .ok v' w' ∧ GrowA w' B v' (l ++ news) ∧ w.grownBy w' v.ownBlock ∧ Go.RowKit.Below B w w' := by
  obtain ⟨i0, hi, hz0, hz1, hz2⟩ := info_parts info_am
  cases src with
  | none =>
    have h0 : news.length = 0 := by
      rcases hsrc with h | ⟨b, off, he, _⟩
      · exact h
      · cases he
    have hn : news = [] := List.eq_nil_of_length_eq_zero h0
    subst hn
    obtain rfl : m = 0 := by omega
    refine ⟨v, w, ?_, by rw [List.append_nil]; exact hown, ⟨rfl, rfl, rfl, Nat.le_refl _, fun _ _ _ => rfl⟩, Below.refl _ _⟩
    rcases hown.2 with ⟨rfl, h2⟩ | ⟨g, cap, cur, rfl, h2, h3, h4, _⟩
    · simp [Builtin.append_, run_underlying Try.underlying49, sizeOf, typeInfo, hi, Builtin.lenOf, Builtin.firstCells]
    · simp [Builtin.append_, run_underlying Try.underlying49, sizeOf, typeInfo, hi, Builtin.lenOf, Builtin.firstCells, h4, storeCells]
  | some ad =>
    have hnews : ∀ j u, (cellsL news)[j]? = some u → w.cell? (ad.add j) = some u := by
      intro j u hu
      rcases hsrc with h0 | ⟨b, off, e, hat⟩
      · obtain rfl := List.eq_nil_of_length_eq_zero h0
        simp [cellsL] at hu
      · injection e with e
        subst e
        rw [Addr.add_lit]
        exact holds_of_aat hat j u hu
    obtain ⟨v', w', hr, h2, h3, _, h5⟩ := run_append_own_at (P := Try.prog) w B 49 ty 56 i0 _ 2 24 Try.underlying49 hi hz0 hz1 hz2 rfl (by decide) v l.length (cellsL l) hown ad m c (cellsL news) (by rw [cellsL_length, hm]) hnews (cellsL_one news) (by unfold maxLen; omega) hb hB
    refine ⟨v', w', hr, ?_, h3, (Below.refl B w).grown h3 hB fun k hk => (GrowA.lt hown k hk).1⟩
    unfold GrowA
    rw [List.length_append, hm, cellsL_append]
    exact h2
/-- Appending onto a slice that has no room: a new row. -/
theorem run_app_full (w : World) (ty : TypeId) (x : Option Addr) (n : Nat) (l : List Am) (hl : l.length = n) (hx : (x = none ∧ n = 0) ∨ ∃ g, x = some ⟨g, 0, none⟩ ∧ AAt w g 0 l) (g2 m c : Nat) (news : List Am) (hsrc : AAt w g2 0 news) (hm : news.length = m) (h1 : 1 ≤ m) (hb : (n + m) * 24 ≤ 140737488355328) :
    ∃ v' w', (Builtin.append_ #[49, 49] ty #[.slice x n n, .slice (some ⟨g2, 0, none⟩) m c]).run Try.prog w = .ok v' w' ∧ GrowA w' w.heap.size v' (l ++ news) ∧ Go.RowKit.Below w.heap.size w w' := by
  rcases hx with ⟨rfl, rfl⟩ | ⟨g, rfl, hold⟩
  · obtain rfl := List.eq_nil_of_length_eq_zero hl
    obtain ⟨v', w', hr, h2, _, h4⟩ := run_app_am w ty w.heap.size (.slice none 0 0) [] (GrowA.nil _ _) (some ⟨g2, 0, none⟩) m c news (.inr ⟨g2, 0, rfl, hsrc⟩) hm (by simp; omega) (Nat.le_refl _)
    exact ⟨v', w', hr, h2, h4⟩
  · obtain ⟨i0, hi, hz0, hz1, hz2⟩ := info_parts info_am
    have c1 : ∀ j u, (cellsL l)[j]? = some u → w.cell? ((⟨g, 0, none⟩ : Addr).add j) = some u := fun j u hu => by rw [Addr.add_lit]; exact holds_of_aat hold j u hu
    have c2 : ∀ j u, (cellsL news)[j]? = some u → w.cell? ((⟨g2, 0, none⟩ : Addr).add j) = some u := fun j u hu => by rw [Addr.add_lit]; exact holds_of_aat hsrc j u hu
    obtain ⟨v', w', hr, h2, h3⟩ := run_append_arg_grows (P := Try.prog) w 49 ty 56 i0 _ 2 24 Try.underlying49 hi hz0 hz1 hz2 rfl (by decide) ⟨g, 0, none⟩ n n (cellsL l) (by rw [cellsL_length, hl]) c1 ⟨g2, 0, none⟩ m c (cellsL news) (by rw [cellsL_length, hm]) c2 (by omega) (by unfold maxLen; omega) hb
    refine ⟨v', w', hr, ?_, (Below.refl w.heap.size w).grown h3 (Nat.le_refl _) fun k hk => by cases hk⟩
    unfold GrowA
    rw [List.length_append, cellsL_append, hm, hl]
    exact h2
theorem step_am {ops : Array Oper} {o : Oper} {a : Act} {K : Act → World → Prop} {Q : Exit → Act → World → Prop} {E : Prop} (w : World) (hgd : o.guard = none) (s x : Operand)
    (ho : o.op = .call { callee := .builtin .append, args := #[s, x], argTypes := #[49, 49] })
    (B : Nat) (v : Value) (l : List Am) (hs : a.eval s = v) (hown : GrowA w B v l) (src : Option Addr) (m c : Nat) (news : List Am) (hx : a.eval x = .slice src m c) (hsrc : CameA w src news) (hm : news.length = m)
    (hb : (l.length + m) * 24 ≤ 140737488355328) (hB : B ≤ w.heap.size)
    (h : ∀ v' w', GrowA w' B v' (l ++ news) → Go.RowKit.Below B w w' → K (a.put o.dst v') w') :
    if Region.wanted o (yielded ops a.tmps) = true then Oper.wp Try.prog o a w K Q else E := by
  have hw : Region.wanted o (yielded ops a.tmps) = true := by simp [Region.wanted, hgd]
  rw [if_pos hw]
  obtain ⟨v', w', hr, h2, _, h4⟩ := run_app_am w o.type B v l hown src m c news hsrc hm hb hB
  unfold Oper.wp execOp
  simp only [ho, resolve, invoke, builtin, Sem.run_bind, Sem.run_pure, Result.andThen_ok, List.map_toArray, List.map_cons, List.map_nil, hs, hx, hr]
  exact h v' w' h2 h4
theorem step_full {ops : Array Oper} {o : Oper} {a : Act} {K : Act → World → Prop} {Q : Exit → Act → World → Prop} {E : Prop} (w : World) (hgd : o.guard = none) (s x : Operand)
    (ho : o.op = .call { callee := .builtin .append, args := #[s, x], argTypes := #[49, 49] })
    (y : Option Addr) (n : Nat) (l : List Am) (hs : a.eval s = .slice y n n) (hl : l.length = n) (hy : (y = none ∧ n = 0) ∨ ∃ g, y = some ⟨g, 0, none⟩ ∧ AAt w g 0 l) (g2 m c : Nat) (news : List Am) (hx : a.eval x = .slice (some ⟨g2, 0, none⟩) m c) (hsrc : AAt w g2 0 news) (hm : news.length = m) (h1 : 1 ≤ m) (hb : (n + m) * 24 ≤ 140737488355328)
    (h : ∀ v' w', GrowA w' w.heap.size v' (l ++ news) → Go.RowKit.Below w.heap.size w w' → K (a.put o.dst v') w') :
    if Region.wanted o (yielded ops a.tmps) = true then Oper.wp Try.prog o a w K Q else E := by
  have hw : Region.wanted o (yielded ops a.tmps) = true := by simp [Region.wanted, hgd]
  rw [if_pos hw]
  obtain ⟨v', w', hr, h2, h4⟩ := run_app_full w o.type y n l hl hy g2 m c news hsrc hm h1 hb
  unfold Oper.wp execOp
  simp only [ho, resolve, invoke, builtin, Sem.run_bind, Sem.run_pure, Result.andThen_ok, List.map_toArray, List.map_cons, List.map_nil, hs, hx, hr]
  exact h v' w' h2 h4
theorem GrowA.one (w : World) (t : Am) (B : Nat) (hB : B ≤ w.heap.size) : GrowA (w.alloc (.cells #[.string t.name, .int .i64 t.mon] 56)) B (.slice (some ⟨w.heap.size, 0, none⟩) 1 1) [t] :=
  ⟨rfl, .inr ⟨w.heap.size, 1, #[.string t.name, .int .i64 t.mon], rfl, hB, heap_alloc_new w _, Nat.le_refl _, by unfold maxLen; omega, rfl, rfl⟩⟩
theorem addr0 (x : Option Addr) : x.map (fun a => a.add 0) = x := by
  cases x with
  | none => rfl
  | some a => rfl
set_option maxRecDepth 100000 in
theorem run_head (x : Option Addr) (n c k : Nat) (hk : k ≤ n) (hn : n ≤ c) (w : World) :
    (Instr.slice 49 (.slice x n c) none (some (.int .i64 (k : Int))) (some (.int .i64 (k : Int)))).run Try.prog w = .ok (.slice x k k) w := by
  obtain ⟨i0, hi, hz0, hz1, hz2⟩ := info_parts info_am
  have h1 : k ≤ c := by omega
  simp [Instr.slice, Instr.sliceBounds, Instr.sliceBound, asIntOf, run_underlying Try.underlying49, sizeOf, typeInfo, hi, h1, addr0]
set_option maxRecDepth 100000 in
theorem run_tail (x : Option Addr) (n c k : Nat) (hk : k ≤ n) (hn : n ≤ c) : ∃ (y : Option Addr) (c2 : Nat), (∀ w : World,
    (Instr.slice 49 (.slice x n c) (some (.int .i64 (k : Int))) none none).run Try.prog w = .ok (.slice y (n - k) c2) w) ∧ (n = k ∨ y = x.map (fun a => a.add (k * 2))) := by
  obtain ⟨i0, hi, hz0, hz1, hz2⟩ := info_parts info_am
  by_cases hc : c = k
  · refine ⟨x, c - k, fun w => ?_, .inl (by omega)⟩
    simp [Instr.slice, Instr.sliceBounds, Instr.sliceBound, asIntOf, run_underlying Try.underlying49, sizeOf, typeInfo, hi, hk, hc]
  · refine ⟨x.map (fun a => a.add (k * 2)), c - k, fun w => ?_, .inr rfl⟩
    simp [Instr.slice, Instr.sliceBounds, Instr.sliceBound, asIntOf, run_underlying Try.underlying49, sizeOf, typeInfo, hi, hz1, hk, hc]
/-- The part of amounts from a place on. -/
theorem tail_came {w : World} {B : Nat} {x y : Option Addr} {c : Nat} {F : List Am} (h : OwnA w B x c F) {k : Nat} (hy : F.length = k ∨ y = x.map (fun a => a.add (k * 2))) : CameA w y (F.drop k) := by
  rcases hy with e | e
  · exact .inl (by rw [List.length_drop]; omega)
  · rcases h with ⟨_, _, h⟩ | ⟨g, h1, _, h3, _⟩
    · exact .inl (by rw [h]; simp)
    · refine .inr ⟨g, k * 2, ?_, by have := h3.drop k; rwa [Nat.zero_add] at this⟩
      rw [e, h1]
      simp [Addr.add_lit]
theorem head_full {w : World} {B : Nat} {x : Option Addr} {c : Nat} {F : List Am} (h : OwnA w B x c F) {k : Nat} (hk : k ≤ F.length) : (x = none ∧ k = 0) ∨ ∃ g, x = some ⟨g, 0, none⟩ ∧ AAt w g 0 (F.take k) := by
  rcases h with ⟨h1, _, h⟩ | ⟨g, h1, _, h3, _⟩
  · exact .inl ⟨h1, by rw [h] at hk; simpa using hk⟩
  · exact .inr ⟨g, h1, h3.take k⟩
/-- Amounts that rise by their names, each with what its name comes to in L. -/
def InvA (F L : List Am) : Prop := upA F ∧ ∀ x, x ∈ F ↔ hasN x.name L = true ∧ x.mon = sumN x.name L
/-- t put in at a place j. -/
def insA (j : Nat) (t : Am) (F : List Am) : List Am := F.take j ++ (t :: F.drop j)
theorem InvA.nil : InvA [] [] := ⟨List.Pairwise.nil, fun x => by simp [hasN]⟩
theorem hasN_snoc (s : ByteArray) (L : List Am) (t : Am) : hasN s (L ++ [t]) = (hasN s L || decide (t.name.data = s.data)) := by simp [hasN]
theorem sumN_snoc (s : ByteArray) (L : List Am) (t : Am) : sumN s (L ++ [t]) = sumN s L + (if t.name.data = s.data then t.mon else 0) := by rw [sumN_append]; simp [sumN]
theorem adrop {F : List Am} {j : Nat} (hj : j < F.length) : F.drop j = anth F j :: F.drop (j + 1) := by rw [anth_get hj, List.drop_eq_getElem_cons hj]
theorem am_ext {a b : Am} (h1 : a.name = b.name) (h2 : a.mon = b.mon) : a = b := by
  obtain ⟨a1, a2⟩ := a
  obtain ⟨b1, b2⟩ := b
  simp only at h1 h2
  rw [h1, h2]
/-- Nothing between: who is ahead of place j is less, who is from j on is no less. -/
theorem upA_parts {F : List Am} (h : upA F) {s : ByteArray} {j : Nat} (hj : j ≤ F.length) (h1 : ∀ i, i < j → ltS (anth F i).name s = true) (h2 : j < F.length → ltS (anth F j).name s = false) :
    (∀ x ∈ F.take j, ltS x.name s = true) ∧ ∀ x ∈ F.drop j, ltS x.name s = false := by
  refine ⟨fun x hx => ?_, fun x hx => ?_⟩
  · obtain ⟨i, hi, rfl⟩ := List.mem_iff_getElem.1 hx
    rw [List.length_take] at hi
    have := h1 i (by omega)
    rw [anth_get (show i < F.length by omega)] at this
    simpa using this
  · have hjl : j < F.length := by
      by_cases q : j < F.length
      · exact q
      · rw [List.drop_eq_nil_of_le (by omega)] at hx; cases hx
    have hd := h2 hjl
    rw [adrop hjl] at hx
    rcases List.mem_cons.1 hx with rfl | hx
    · exact hd
    · cases hq : ltS x.name s
      · rfl
      · have hP := h
        unfold upA at hP
        rw [(List.take_append_drop j F).symm, List.pairwise_append, adrop hjl, List.pairwise_cons] at hP
        have := ltS_trans (hP.2.1.1 x hx) hq
        rw [hd] at this
        cases this
/-- An amount of a name that is there: its money is added. -/
theorem inv_add {F L : List Am} {t : Am} {j : Nat} (hI : InvA F L) (hj : j < F.length) (he : (anth F j).name = t.name) : InvA (putA F j ((anth F j).mon + t.mon)) (L ++ [t]) := by
  obtain ⟨hP, hM⟩ := hI
  have ho := anth_mem hj
  have hmo := (hM _).1 ho
  have hlen := putA_len (F := F) (j := j) (m := (anth F j).mon + t.mon) hj
  have hnm : ∀ i, (anth (putA F j ((anth F j).mon + t.mon)) i).name = (anth F i).name := fun i => by
    rw [anth_putA hj]
    by_cases e : i = j
    · rw [if_pos e, e]
    · rw [if_neg e]
  refine ⟨?_, fun x => ?_⟩
  · unfold upA at hP ⊢
    rw [List.pairwise_iff_getElem] at hP ⊢
    intro a b ha hb hab
    rw [← anth_get ha, ← anth_get hb, hnm, hnm, anth_get (by omega), anth_get (by omega)]
    exact hP a b (by omega) (by omega) hab
  · rw [hasN_snoc, sumN_snoc]
    constructor
    · intro hx
      obtain ⟨i, hi, rfl⟩ := List.mem_iff_getElem.1 hx
      rw [← anth_get hi, anth_putA hj]
      by_cases e : i = j
      · rw [if_pos e]
        have hd : t.name.data = (anth F j).name.data := by rw [he]
        refine ⟨by rw [decide_eq_true hd]; simp, ?_⟩
        show (anth F j).mon + t.mon = _
        rw [if_pos hd, ← hmo.2]
      · rw [if_neg e]
        have hi' : i < F.length := by omega
        obtain ⟨q1, q2⟩ := (hM _).1 (anth_mem hi')
        have hd : ¬ t.name.data = (anth F i).name.data := fun q => by
          have hne : anth F i ≠ anth F j := fun z => by
            have hP' := hP
            unfold upA at hP'
            rw [List.pairwise_iff_getElem] at hP'
            rw [anth_get hi', anth_get hj] at z
            rcases (show i < j ∨ j < i by omega) with h | h
            · have := hP' i j hi' hj h
              rw [z, ltS_irrefl] at this; cases this
            · have := hP' j i hj hi' h
              rw [z, ltS_irrefl] at this; cases this
          have hnn : (anth F i).name = (anth F j).name := by rw [he]; exact (ba_eq q).symm
          exact hne (am_ext hnn (by rw [q2, hmo.2, hnn]))
        exact ⟨by rw [q1]; rfl, by rw [if_neg hd, q2]; omega⟩
    · rintro ⟨q1, q2⟩
      by_cases e : x.name = t.name
      · have hx : x = anth (putA F j ((anth F j).mon + t.mon)) j := by
          rw [anth_putA hj, if_pos rfl]
          refine am_ext (by rw [e, ← he]) ?_
          show x.mon = (anth F j).mon + t.mon
          rw [q2, if_pos (by rw [e]), hmo.2, he, e]
        rw [hx]
        exact anth_mem (by rw [hlen]; exact hj)
      · have hd : ¬ t.name.data = x.name.data := fun q => e (ba_eq q).symm
        rw [decide_eq_false hd, Bool.or_false] at q1
        rw [if_neg hd, Int.add_zero] at q2
        obtain ⟨i, hi, rfl⟩ := List.mem_iff_getElem.1 ((hM x).2 ⟨q1, q2⟩)
        have hij : i ≠ j := fun z => e (by rw [← he, anth_get hj]; subst z; rfl)
        rw [← anth_get hi, show anth F i = anth (putA F j ((anth F j).mon + t.mon)) i by rw [anth_putA hj, if_neg hij]]
        exact anth_mem (by rw [hlen]; exact hi)
/-- Put in between: F still rises; x is in it just if it was, or is t. -/
theorem ins_up {F : List Am} {t : Am} {j : Nat} (hP : upA F) (hj : j ≤ F.length) (h1 : ∀ i, i < j → ltS (anth F i).name t.name = true) (h2 : j < F.length → ltS (anth F j).name t.name = false) (h3 : j < F.length → (anth F j).name ≠ t.name) : upA (insA j t F) ∧ (∀ x, x ∈ insA j t F ↔ x ∈ F ∨ x = t) ∧ ∀ x ∈ F, x.name ≠ t.name := by
  obtain ⟨k1, k2⟩ := upA_parts hP hj h1 h2
  have hlt : ∀ x ∈ F.drop j, ltS t.name x.name = true := fun x hx => by
    have hjl : j < F.length := by
      by_cases q : j < F.length
      · exact q
      · rw [List.drop_eq_nil_of_le (by omega)] at hx; cases hx
    have hfirst : ltS t.name (anth F j).name = true := by
      cases hq : ltS t.name (anth F j).name
      · exact absurd (ltS_tri (h2 hjl) hq) (h3 hjl)
      · rfl
    rw [adrop hjl] at hx
    rcases List.mem_cons.1 hx with rfl | hx
    · exact hfirst
    · have hP' := hP
      unfold upA at hP'
      rw [(List.take_append_drop j F).symm, List.pairwise_append, adrop hjl, List.pairwise_cons] at hP'
      exact ltS_trans hfirst (hP'.2.1.1 x hx)
  refine ⟨?_, fun x => ?_, fun x hx e => ?_⟩
  · unfold upA insA
    have hP' := hP
    unfold upA at hP'
    rw [(List.take_append_drop j F).symm, List.pairwise_append] at hP'
    rw [List.pairwise_append, List.pairwise_cons]
    refine ⟨hP'.1, ⟨hlt, hP'.2.1⟩, fun x hx y hy => ?_⟩
    rcases List.mem_cons.1 hy with rfl | hy
    · exact k1 x hx
    · exact hP'.2.2 x hx y hy
  · unfold insA
    rw [List.mem_append, List.mem_cons]
    have : x ∈ F ↔ x ∈ F.take j ∨ x ∈ F.drop j := by rw [← List.mem_append, List.take_append_drop]
    rw [this]
    constructor
    · rintro (h | h | h)
      · exact .inl (.inl h)
      · exact .inr h
      · exact .inl (.inr h)
    · rintro ((h | h) | h)
      · exact .inl h
      · exact .inr (.inr h)
      · exact .inr (.inl h)
  · have : x ∈ F.take j ∨ x ∈ F.drop j := by rw [← List.mem_append, List.take_append_drop]; exact hx
    rcases this with h | h
    · have := k1 x h
      rw [e, ltS_irrefl] at this
      cases this
    · have := hlt x h
      rw [e, ltS_irrefl] at this
      cases this
theorem inv_ins {F L : List Am} {t : Am} {j : Nat} (hI : InvA F L) (hj : j ≤ F.length) (h1 : ∀ i, i < j → ltS (anth F i).name t.name = true) (h2 : j < F.length → ltS (anth F j).name t.name = false) (h3 : j < F.length → (anth F j).name ≠ t.name) : InvA (insA j t F) (L ++ [t]) := by
  obtain ⟨hP, hM⟩ := hI
  obtain ⟨u1, u2, u3⟩ := ins_up hP hj h1 h2 h3
  have hno : hasN t.name L = false := by
    cases hq : hasN t.name L
    · rfl
    · exact absurd rfl (u3 ⟨t.name, sumN t.name L⟩ ((hM _).2 ⟨hq, rfl⟩))
  refine ⟨u1, fun x => ?_⟩
  rw [u2, hasN_snoc, sumN_snoc]
  constructor
  · rintro (hx | rfl)
    · obtain ⟨q1, q2⟩ := (hM x).1 hx
      have hd : ¬ t.name.data = x.name.data := fun q => u3 x hx (ba_eq q).symm
      exact ⟨by rw [q1]; rfl, by rw [if_neg hd, q2]; omega⟩
    · refine ⟨by simp, ?_⟩
      rw [if_pos rfl, sumN_none hno]
      omega
  · rintro ⟨q1, q2⟩
    by_cases e : x.name = t.name
    · refine .inr (am_ext e ?_)
      rw [q2, if_pos (by rw [e]), e, sumN_none hno]
      omega
    · have hd : ¬ t.name.data = x.name.data := fun q => e (ba_eq q).symm
      rw [decide_eq_false hd, Bool.or_false] at q1
      rw [if_neg hd, Int.add_zero] at q2
      exact .inl ((hM x).2 ⟨q1, q2⟩)
theorem insA_len (j : Nat) (t : Am) (F : List Am) : (insA j t F).length = F.length + 1 := by
  unfold insA
  rw [List.length_append, List.length_cons, List.length_take, List.length_drop]
  omega
/-- Without those that come to 0 they are the sums' amounts. -/
theorem inv_ams {F L : List Am} (hI : InvA F L) (hf : ∀ x ∈ L, x.name.size ≤ maxLen) : AmsOf (sumsS L) (F.filter fun x => !(x.mon == 0)) := by
  obtain ⟨hP, hM⟩ := hI
  have hup : upA (F.filter fun x => !(x.mon == 0)) := List.Pairwise.filter _ hP
  refine ⟨⟨?_, fun t => ?_⟩, hup⟩
  · exact hup.imp fun {a b} h e => by rw [e, ltS_irrefl] at h; cases h
  · rw [List.mem_filter, hM]
    constructor
    · rintro ⟨⟨q1, q2⟩, q3⟩
      refine ⟨?_, by rw [sumsS_eq, q1, if_pos rfl, q2], by simpa using q3⟩
      unfold hasN at q1
      obtain ⟨a, ha, e⟩ := List.any_eq_true.1 q1
      rw [← ba_eq (of_decide_eq_true e)]
      exact hf a ha
    · rintro ⟨_, q2, q3⟩
      rw [sumsS_eq] at q2
      cases hh : hasN t.name L
      · rw [hh] at q2; simp at q2
      · rw [hh, if_pos rfl] at q2
        exact ⟨⟨rfl, (Option.some.inj q2).symm⟩, by simpa using q3⟩
end Go.Proofs.Ytdgcfakbmhchdaa
