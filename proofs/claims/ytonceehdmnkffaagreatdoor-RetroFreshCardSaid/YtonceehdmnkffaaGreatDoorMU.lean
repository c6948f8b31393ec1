/-
  Amounts in a row of the call's own, into which amounts are put: how they lie, appends and parts.
  Promise N2: the reference's Begins: the first days of periods.
  Promise N2: the reference's InputsAt.
  Promise N2: what is wrong where a plan is right: what is no money, and no more. Said without memory.
-/
import Derived.Test.YtonceehdmnkffaaGreatDoorJM
import Derived.ArgAppend
import Derived.Deep.RegionHeld3
import Derived.Test.YtonceehdmnkffaaGreatDoorJN
import Derived.Test.YtonceehdmnkffaaGreatDoorKT
import Derived.Test.YtonceehdmnkffaaGreatDoorJS
import Derived.Test.YtonceehdmnkffaaGreatDoorMR
namespace Go.Proofs.YtonceehdmnkffaaGreatDoor
open Go.RowKit Go.Sort

/-- Do names rise? -/
def upA (l : List Am) : Prop := l.Pairwise fun a b => ltS a.name b.name = true
theorem anth_get {l : List Am} {j : Nat} (hj : j < l.length) : anth l j = l[j] := by simp [anth, List.getD_eq_getElem?_getD, hj]
/-- The amounts F lie in a row of the call's own, from block B on, that may be written. -/
def OwnA (w : World) (B : Nat) (x : Option Addr) (c : Nat) (F : List Am) : Prop := (x = none ∧ c = 0 ∧ F = []) ∨ ∃ g, x = some ⟨g, 0, none⟩ ∧ B ≤ g ∧ AAt w g 0 F ∧ F.length ≤ c ∧ c ≤ maxLen ∧ ∀ j, j < F.length → w.frozen? ⟨g, j * 2 + 1, none⟩ = false
theorem OwnA.of {w : World} {B : Nat} {v : Value} {l : List Am} (h : GrowA w B v l) : ∃ x c, v = .slice x l.length c ∧ OwnA w B x c l := by
  have hh := h
  rcases h.form with ⟨h1, h2⟩ | ⟨g, c, h1, h2, h3, h4⟩
  · subst h2
    exact ⟨none, 0, h1, .inl ⟨rfl, rfl, rfl⟩⟩
  · refine ⟨_, c, h1, .inr ⟨g, rfl, h2, h3, ?_⟩⟩
    rcases hh.2 with ⟨e1, _⟩ | ⟨g', c', cur, e1, _, hg, hn, hm, hs, _⟩
    · rw [h1] at e1; cases e1
    · rw [h1] at e1
      injection e1 with e1 e2 e3
      subst e3
      injection e1 with e1
      injection e1 with e1
      subst e1
      exact ⟨hn, hm, fun j hj => by simp [World.frozen?, hg]⟩
theorem OwnA.below {w w' : World} {B : Nat} {x : Option Addr} {c : Nat} {l : List Am} (h : OwnA w B x c l) (hb : Go.RowKit.Below w.heap.size w w') : OwnA w' B x c l := by
  rcases h with h | ⟨g, h1, h2, h3, h4, h5, h6⟩
  · exact .inl h
  · exact .inr ⟨g, h1, h2, h3.below hb h3.1, h4, h5, fun j hj => by rw [hb.frozen (p := ⟨g, j * 2 + 1, none⟩) h3.1]; exact h6 j hj⟩
theorem OwnA.mono {w : World} {B B' : Nat} {x : Option Addr} {c : Nat} {l : List Am} (h : OwnA w B x c l) (hB : B' ≤ B) : OwnA w B' x c l := by
  rcases h with h | ⟨g, h1, h2, h3⟩
  · exact .inl h
  · exact .inr ⟨g, h1, Nat.le_trans hB h2, h3⟩
theorem OwnA.came {w : World} {B : Nat} {x : Option Addr} {c : Nat} {l : List Am} (h : OwnA w B x c l) : CameA w x l := by
  rcases h with ⟨_, _, h⟩ | ⟨g, h1, _, h3, _⟩
  · exact .inl (by rw [h]; rfl)
  · exact .inr ⟨g, 0, h1, h3⟩
theorem OwnA.cap {w : World} {B : Nat} {x : Option Addr} {c : Nat} {l : List Am} (h : OwnA w B x c l) : l.length ≤ c ∧ c ≤ maxLen := by
  rcases h with ⟨_, h, h2⟩ | ⟨g, _, _, _, h4, h5, _⟩
  · rw [h, h2]; exact ⟨Nat.le_refl _, Nat.zero_le _⟩
  · exact ⟨h4, h5⟩
theorem AAt.take {w : World} {g off : Nat} {F : List Am} (h : AAt w g off F) (j : Nat) : AAt w g off (F.take j) := by
  refine ⟨h.1, fun i hi => ?_⟩
  rw [List.length_take] at hi
  have e : anth (F.take j) i = anth F i := by
    unfold anth
    rw [List.getD_eq_getElem?_getD, List.getElem?_take, if_pos (by omega), List.getD_eq_getElem?_getD]
  rw [e]
  exact h.2 i (by omega)
theorem AAt.drop {w : World} {g off : Nat} {F : List Am} (h : AAt w g off F) (j : Nat) : AAt w g (off + j * 2) (F.drop j) := by
  refine ⟨h.1, fun i hi => ?_⟩
  rw [List.length_drop] at hi
  have e : anth (F.drop j) i = anth F (j + i) := by
    unfold anth
    rw [List.getD_eq_getElem?_getD, List.getElem?_drop, List.getD_eq_getElem?_getD]
  rw [e, show off + j * 2 + i * 2 = off + (j + i) * 2 from by omega]
  exact h.2 (j + i) (by omega)
set_option maxRecDepth 100000 in
/-- Appending whatever lies there onto a row of the call's own. -/
theorem run_app_am (w : World) (ty : TypeId) (B : Nat) (v : Value) (l : List Am) (hown : GrowA w B v l) (src : Option Addr) (m c : Nat) (news : List Am) (hsrc : CameA w src news) (hm : news.length = m)
    (hb : (l.length + m) * 24 ≤ 140737488355328) (hB : B ≤ w.heap.size) :
    ∃ v' w', (Builtin.append_ #[69, 69] ty #[v, .slice src m c]).run Tryz.prog w = .ok v' w' ∧ GrowA w' B v' (l ++ news) ∧ w.grownBy w' v.ownBlock ∧ Go.RowKit.Below B w w' := by
  obtain ⟨i0, hi, hz0, hz1, hz2⟩ := info_parts info_am
  cases src with
  | none =>
    have h0 : news.length = 0 := by
      rcases hsrc with h | ⟨b, off, he, _⟩
      · exact h
      · cases he
    have hn : news = [] := List.eq_nil_of_length_eq_zero h0
    subst hn
    obtain rfl : m = 0 := by omega
    refine ⟨v, w, ?_, by rw [List.append_nil]; exact hown, ⟨rfl, rfl, rfl, Nat.le_refl _, fun _ _ _ => rfl⟩, Below.refl _ _⟩
    rcases hown.2 with ⟨rfl, h2⟩ | ⟨g, cap, cur, rfl, h2, h3, h4, _⟩
    · simp [Builtin.append_, run_underlying Tryz.underlying69, sizeOf, typeInfo, hi, Builtin.lenOf, Builtin.firstCells]
    · simp [Builtin.append_, run_underlying Tryz.underlying69, sizeOf, typeInfo, hi, Builtin.lenOf, Builtin.firstCells, h4, storeCells]
  | some ad =>
    have hnews : ∀ j u, (cellsL news)[j]? = some u → w.cell? (ad.add j) = some u := by
      intro j u hu
      rcases hsrc with h0 | ⟨b, off, e, hat⟩
      · obtain rfl := List.eq_nil_of_length_eq_zero h0
        simp [cellsL] at hu
      · injection e with e
        subst e
        rw [Addr.add_lit]
        exact holds_of_aat hat j u hu
    obtain ⟨v', w', hr, h2, h3, _, h5⟩ := run_append_own_at (P := Tryz.prog) w B 69 ty 72 i0 _ 2 24 Tryz.underlying69 hi hz0 hz1 hz2 rfl (by decide) v l.length (cellsL l) hown ad m c (cellsL news) (by rw [cellsL_length, hm]) hnews (cellsL_one news) (by unfold maxLen; omega) hb hB
    refine ⟨v', w', hr, ?_, h3, (Below.refl B w).grown h3 hB fun k hk => (GrowA.lt hown k hk).1⟩
    unfold GrowA
    rw [List.length_append, hm, cellsL_append]
    exact h2
/-- Appending onto a slice that has no room: a new row. -/
theorem run_app_full (w : World) (ty : TypeId) (x : Option Addr) (n : Nat) (l : List Am) (hl : l.length = n) (hx : (x = none ∧ n = 0) ∨ ∃ g, x = some ⟨g, 0, none⟩ ∧ AAt w g 0 l) (g2 m c : Nat) (news : List Am) (hsrc : AAt w g2 0 news) (hm : news.length = m) (h1 : 1 ≤ m) (hb : (n + m) * 24 ≤ 140737488355328) :
    ∃ v' w', (Builtin.append_ #[69, 69] ty #[.slice x n n, .slice (some ⟨g2, 0, none⟩) m c]).run Tryz.prog w = .ok v' w' ∧ GrowA w' w.heap.size v' (l ++ news) ∧ Go.RowKit.Below w.heap.size w w' := by
  rcases hx with ⟨rfl, rfl⟩ | ⟨g, rfl, hold⟩
  · obtain rfl := List.eq_nil_of_length_eq_zero hl
    obtain ⟨v', w', hr, h2, _, h4⟩ := run_app_am w ty w.heap.size (.slice none 0 0) [] (GrowA.nil _ _) (some ⟨g2, 0, none⟩) m c news (.inr ⟨g2, 0, rfl, hsrc⟩) hm (by simp; omega) (Nat.le_refl _)
    exact ⟨v', w', hr, h2, h4⟩
  · obtain ⟨i0, hi, hz0, hz1, hz2⟩ := info_parts info_am
    have c1 : ∀ j u, (cellsL l)[j]? = some u → w.cell? ((⟨g, 0, none⟩ : Addr).add j) = some u := fun j u hu => by rw [Addr.add_lit]; exact holds_of_aat hold j u hu
    have c2 : ∀ j u, (cellsL news)[j]? = some u → w.cell? ((⟨g2, 0, none⟩ : Addr).add j) = some u := fun j u hu => by rw [Addr.add_lit]; exact holds_of_aat hsrc j u hu
    obtain ⟨v', w', hr, h2, h3⟩ := run_append_arg_grows (P := Tryz.prog) w 69 ty 72 i0 _ 2 24 Tryz.underlying69 hi hz0 hz1 hz2 rfl (by decide) ⟨g, 0, none⟩ n n (cellsL l) (by rw [cellsL_length, hl]) c1 ⟨g2, 0, none⟩ m c (cellsL news) (by rw [cellsL_length, hm]) c2 (by omega) (by unfold maxLen; omega) hb
    refine ⟨v', w', hr, ?_, (Below.refl w.heap.size w).grown h3 (Nat.le_refl _) fun k hk => by cases hk⟩
    unfold GrowA
    rw [List.length_append, cellsL_append, hm, hl]
    exact h2
theorem step_am {ops : Array Oper} {o : Oper} {a : Act} {K : Act → World → Prop} {Q : Exit → Act → World → Prop} {E : Prop} (w : World) (hgd : o.guard = none) (s x : Operand)
    (ho : o.op = .call { callee := .builtin .append, args := #[s, x], argTypes := #[69, 69] })
    (B : Nat) (v : Value) (l : List Am) (hs : a.eval s = v) (hown : GrowA w B v l) (src : Option Addr) (m c : Nat) (news : List Am) (hx : a.eval x = .slice src m c) (hsrc : CameA w src news) (hm : news.length = m)
    (hb : (l.length + m) * 24 ≤ 140737488355328) (hB : B ≤ w.heap.size)
    (h : ∀ v' w', GrowA w' B v' (l ++ news) → Go.RowKit.Below B w w' → K (a.put o.dst v') w') :
    if Region.wanted o (yielded ops a.tmps) = true then Oper.wp Tryz.prog o a w K Q else E := by
  have hw : Region.wanted o (yielded ops a.tmps) = true := by simp [Region.wanted, hgd]
  rw [if_pos hw]
  obtain ⟨v', w', hr, h2, _, h4⟩ := run_app_am w o.type B v l hown src m c news hsrc hm hb hB
  unfold Oper.wp execOp
  simp only [ho, resolve, invoke, builtin, Sem.run_bind, Sem.run_pure, Result.andThen_ok, List.map_toArray, List.map_cons, List.map_nil, hs, hx, hr]
  exact h v' w' h2 h4
theorem step_full {ops : Array Oper} {o : Oper} {a : Act} {K : Act → World → Prop} {Q : Exit → Act → World → Prop} {E : Prop} (w : World) (hgd : o.guard = none) (s x : Operand)
    (ho : o.op = .call { callee := .builtin .append, args := #[s, x], argTypes := #[69, 69] })
    (y : Option Addr) (n : Nat) (l : List Am) (hs : a.eval s = .slice y n n) (hl : l.length = n) (hy : (y = none ∧ n = 0) ∨ ∃ g, y = some ⟨g, 0, none⟩ ∧ AAt w g 0 l) (g2 m c : Nat) (news : List Am) (hx : a.eval x = .slice (some ⟨g2, 0, none⟩) m c) (hsrc : AAt w g2 0 news) (hm : news.length = m) (h1 : 1 ≤ m) (hb : (n + m) * 24 ≤ 140737488355328)
    (h : ∀ v' w', GrowA w' w.heap.size v' (l ++ news) → Go.RowKit.Below w.heap.size w w' → K (a.put o.dst v') w') :
    if Region.wanted o (yielded ops a.tmps) = true then Oper.wp Tryz.prog o a w K Q else E := by
  have hw : Region.wanted o (yielded ops a.tmps) = true := by simp [Region.wanted, hgd]
  rw [if_pos hw]
  obtain ⟨v', w', hr, h2, h4⟩ := run_app_full w o.type y n l hl hy g2 m c news hsrc hm h1 hb
  unfold Oper.wp execOp
  simp only [ho, resolve, invoke, builtin, Sem.run_bind, Sem.run_pure, Result.andThen_ok, List.map_toArray, List.map_cons, List.map_nil, hs, hx, hr]
  exact h v' w' h2 h4
theorem GrowA.one (w : World) (t : Am) (B : Nat) (hB : B ≤ w.heap.size) : GrowA (w.alloc (.cells #[.string t.name, .int .i64 t.mon] 72)) B (.slice (some ⟨w.heap.size, 0, none⟩) 1 1) [t] :=
  ⟨rfl, .inr ⟨w.heap.size, 1, #[.string t.name, .int .i64 t.mon], rfl, hB, heap_alloc_new w _, Nat.le_refl _, by unfold maxLen; omega, rfl, rfl⟩⟩
theorem addr0 (x : Option Addr) : x.map (fun a => a.add 0) = x := by
  cases x with
  | none => rfl
  | some a => rfl
set_option maxRecDepth 100000 in
theorem run_head (x : Option Addr) (n c k : Nat) (hk : k ≤ n) (hn : n ≤ c) (w : World) :
    (Instr.slice 69 (.slice x n c) none (some (.int .i64 (k : Int))) (some (.int .i64 (k : Int)))).run Tryz.prog w = .ok (.slice x k k) w := by
  obtain ⟨i0, hi, hz0, hz1, hz2⟩ := info_parts info_am
  have h1 : k ≤ c := by omega
  simp [Instr.slice, Instr.sliceBounds, Instr.sliceBound, asIntOf, run_underlying Tryz.underlying69, sizeOf, typeInfo, hi, h1, addr0]
set_option maxRecDepth 100000 in
theorem run_tail (x : Option Addr) (n c k : Nat) (hk : k ≤ n) (hn : n ≤ c) : ∃ (y : Option Addr) (c2 : Nat), (∀ w : World,
    (Instr.slice 69 (.slice x n c) (some (.int .i64 (k : Int))) none none).run Tryz.prog w = .ok (.slice y (n - k) c2) w) ∧ (n = k ∨ y = x.map (fun a => a.add (k * 2))) := by
  obtain ⟨i0, hi, hz0, hz1, hz2⟩ := info_parts info_am
  by_cases hc : c = k
  · refine ⟨x, c - k, fun w => ?_, .inl (by omega)⟩
    simp [Instr.slice, Instr.sliceBounds, Instr.sliceBound, asIntOf, run_underlying Tryz.underlying69, sizeOf, typeInfo, hi, hk, hc]
  · refine ⟨x.map (fun a => a.add (k * 2)), c - k, fun w => ?_, .inr rfl⟩
    simp [Instr.slice, Instr.sliceBounds, Instr.sliceBound, asIntOf, run_underlying Tryz.underlying69, sizeOf, typeInfo, hi, hz1, hk, hc]
/-- The part of amounts from a place on. -/
theorem tail_came {w : World} {B : Nat} {x y : Option Addr} {c : Nat} {F : List Am} (h : OwnA w B x c F) {k : Nat} (hy : F.length = k ∨ y = x.map (fun a => a.add (k * 2))) : CameA w y (F.drop k) := by
  rcases hy with e | e
  · exact .inl (by rw [List.length_drop]; omega)
  · rcases h with ⟨_, _, h⟩ | ⟨g, h1, _, h3, _⟩
    · exact .inl (by rw [h]; simp)
    · refine .inr ⟨g, k * 2, ?_, by have := h3.drop k; rwa [Nat.zero_add] at this⟩
      rw [e, h1]
      simp [Addr.add_lit]
theorem head_full {w : World} {B : Nat} {x : Option Addr} {c : Nat} {F : List Am} (h : OwnA w B x c F) {k : Nat} (hk : k ≤ F.length) : (x = none ∧ k = 0) ∨ ∃ g, x = some ⟨g, 0, none⟩ ∧ AAt w g 0 (F.take k) := by
  rcases h with ⟨h1, _, h⟩ | ⟨g, h1, _, h3, _⟩
  · exact .inl ⟨h1, by rw [h] at hk; simpa using hk⟩
  · exact .inr ⟨g, h1, h3.take k⟩
/-- t put in at a place j. -/
def insA (j : Nat) (t : Am) (F : List Am) : List Am := F.take j ++ (t :: F.drop j)
theorem adrop {F : List Am} {j : Nat} (hj : j < F.length) : F.drop j = anth F j :: F.drop (j + 1) := by rw [anth_get hj, List.drop_eq_getElem_cons hj]
/-- Nothing between: who is ahead of place j is less, who is from j on is no less. -/
theorem upA_parts {F : List Am} (h : upA F) {s : ByteArray} {j : Nat} (hj : j ≤ F.length) (h1 : ∀ i, i < j → ltS (anth F i).name s = true) (h2 : j < F.length → ltS (anth F j).name s = false) :
    (∀ x ∈ F.take j, ltS x.name s = true) ∧ ∀ x ∈ F.drop j, ltS x.name s = false := by
  refine ⟨fun x hx => ?_, fun x hx => ?_⟩
  · obtain ⟨i, hi, rfl⟩ := List.mem_iff_getElem.1 hx
    rw [List.length_take] at hi
    have := h1 i (by omega)
    rw [anth_get (show i < F.length by omega)] at this
    simpa using this
  · have hjl : j < F.length := by
      by_cases q : j < F.length
      · exact q
      · rw [List.drop_eq_nil_of_le (by omega)] at hx; cases hx
    have hd := h2 hjl
    rw [adrop hjl] at hx
    rcases List.mem_cons.1 hx with rfl | hx
    · exact hd
    · cases hq : ltS x.name s
      · rfl
      · have hP := h
        unfold upA at hP
        rw [(List.take_append_drop j F).symm, List.pairwise_append, adrop hjl, List.pairwise_cons] at hP
        have := ltS_trans (hP.2.1.1 x hx) hq
        rw [hd] at this
        cases this
/-- Put in between: F still rises; x is in it just if it was, or is t. -/
theorem ins_up {F : List Am} {t : Am} {j : Nat} (hP : upA F) (hj : j ≤ F.length) (h1 : ∀ i, i < j → ltS (anth F i).name t.name = true) (h2 : j < F.length → ltS (anth F j).name t.name = false) (h3 : j < F.length → (anth F j).name ≠ t.name) : upA (insA j t F) ∧ (∀ x, x ∈ insA j t F ↔ x ∈ F ∨ x = t) ∧ ∀ x ∈ F, x.name ≠ t.name := by
  obtain ⟨k1, k2⟩ := upA_parts hP hj h1 h2
  have hlt : ∀ x ∈ F.drop j, ltS t.name x.name = true := fun x hx => by
    have hjl : j < F.length := by
      by_cases q : j < F.length
      · exact q
      · rw [List.drop_eq_nil_of_le (by omega)] at hx; cases hx
    have hfirst : ltS t.name (anth F j).name = true := by
      cases hq : ltS t.name (anth F j).name
      · exact absurd (ltS_tri (h2 hjl) hq) (h3 hjl)
      · rfl
    rw [adrop hjl] at hx
    rcases List.mem_cons.1 hx with rfl | hx
    · exact hfirst
    · have hP' := hP
      unfold upA at hP'
      rw [(List.take_append_drop j F).symm, List.pairwise_append, adrop hjl, List.pairwise_cons] at hP'
      exact ltS_trans hfirst (hP'.2.1.1 x hx)
  refine ⟨?_, fun x => ?_, fun x hx e => ?_⟩
  · unfold upA insA
    have hP' := hP
    unfold upA at hP'
    rw [(List.take_append_drop j F).symm, List.pairwise_append] at hP'
    rw [List.pairwise_append, List.pairwise_cons]
    refine ⟨hP'.1, ⟨hlt, hP'.2.1⟩, fun x hx y hy => ?_⟩
    rcases List.mem_cons.1 hy with rfl | hy
    · exact k1 x hx
    · exact hP'.2.2 x hx y hy
  · unfold insA
    rw [List.mem_append, List.mem_cons]
    have : x ∈ F ↔ x ∈ F.take j ∨ x ∈ F.drop j := by rw [← List.mem_append, List.take_append_drop]
    rw [this]
    constructor
    · rintro (h | h | h)
      · exact .inl (.inl h)
      · exact .inr h
      · exact .inl (.inr h)
    · rintro ((h | h) | h)
      · exact .inl h
      · exact .inr (.inr h)
      · exact .inr (.inl h)
  · have : x ∈ F.take j ∨ x ∈ F.drop j := by rw [← List.mem_append, List.take_append_drop]; exact hx
    rcases this with h | h
    · have := k1 x h
      rw [e, ltS_irrefl] at this
      cases this
    · have := hlt x h
      rw [e, ltS_irrefl] at this
      cases this
theorem insA_len (j : Nat) (t : Am) (F : List Am) : (insA j t F).length = F.length + 1 := by
  unfold insA
  rw [List.length_append, List.length_cons, List.length_take, List.length_drop]
  omega
/-- Without those that come to 0 they are the sums' amounts. -/
theorem insA_perm (j : Nat) (t : Am) (F : List Am) : (insA j t F).Perm (F ++ [t]) := by
  unfold insA
  have h1 : (F.take j ++ (t :: F.drop j)).Perm (t :: (F.take j ++ F.drop j)) := List.perm_middle
  rw [List.take_append_drop] at h1
  exact h1.trans (List.perm_append_comm (l₁ := [t]) (l₂ := F))
end Go.Proofs.YtonceehdmnkffaaGreatDoor
set_option linter.unusedSimpArgs false
namespace Go.Proofs.YtonceehdmnkffaaGreatDoor
open Go.RowKit Go.Sort

/-- First days: of so many periods, from a number on. -/
def DaysAre (K A L frm : Int) (many : Nat) (fs : Nat → Int) : Prop := ∀ j : Nat, j < many → ∃ t, Cal.AtIs K A L (frm + j) (fs j) t 0
def daysL (fs : Nat → Int) (k : Nat) : List Int := (List.range k).map fs
theorem daysL_len (fs : Nat → Int) (k : Nat) : (daysL fs k).length = k := by simp [daysL]
theorem daysL_succ (fs : Nat → Int) (k : Nat) : daysL fs (k + 1) = daysL fs k ++ [fs k] := by simp [daysL, List.range_succ]
theorem daysL_at (fs : Nat → Int) {k j : Nat} (h : j < k) : nth (daysL fs k) j = fs j := by simp [nth, daysL, List.getD_eq_getElem?_getD, h]
theorem tgrow_below {w w' : World} {B : Nat} {v : Value} {l : List Int} (h : Grow w B v l) (hb : Below w.heap.size w w') : Grow w' B v l := grow_keep h fun k hk => hb.block k (h.lt k hk).2
set_option maxRecDepth 100000 in
set_option maxHeartbeats 4000000 in
theorem begins_list (K A L frm : Int) (many : Nat) (fs : Nat → Int) (w : World) (hm : many ≤ 60) (hm1 : 1 ≤ many) (hd : DaysAre K A L frm many fs) :
    Calls Tryz.prog 38 #[.agg #[.int .i64 K, .int .i64 A, .int .i64 L], .int .i64 frm, .int .i64 many] w fun e w' => ∃ rv, e = .returned rv ∧ Grow w' w.heap.size rv (daysL fs many) ∧ Below w.heap.size w w' := by
  have HB0 := Lib.hid (kbelow_box w (.cells #[.int .i64 K, .int .i64 A, .int .i64 L] 23))
  have HS0 := Lib.hid (Cal.SchIs.made w K A L 23)
  have HD := Lib.hid hd
  obtain ⟨t0, hat0⟩ := hd 0 (by omega)
  rw [show frm + ((0 : Nat) : Int) = frm by omega] at hat0
  have HA0 := Lib.hid hat0
  clear hd hat0
  obtain ⟨s0, s1, s2⟩ := HS0.out
  go_enter Tryz.func38, Tryz.ntmps38
  go_wp2_with fail
  refine (Cal.periodAt_ref K A L frm _).mono ?_
  rintro e w1 ⟨f, t, er, rfl, hat, hb1⟩
  obtain ⟨rfl, rfl, rfl⟩ := hat.unique HA0.out
  have HB1 := Lib.hid (HB0.out.trans (hb1.mono HB0.out.size))
  have HS1 := Lib.hid (Cal.SchIs.below HS0.out hb1)
  have HBX := Lib.hid (kbelow_box w1 (.cells #[.int .i64 (fs 0), .int .i64 t] 42))
  have HB2 := Lib.hid (HB1.out.trans (HBX.out.mono HB1.out.size))
  have HS2 := Lib.hid (Cal.SchIs.below HS1.out HBX.out)
  clear hb1 hat s0 s1 s2 HS0 HB0 HS1 HB1 HBX HA0
  go_wp2_with fail
  generalize (w1.alloc (.cells #[.int .i64 (fs 0), .int .i64 t] 42)) = W at *
  have hsb : w.heap.size < W.heap.size := by
    have := blt_of_cell HS2.out.1
    exact this
  go_loopw [7, 10, 11] (fun v d i wr => ∃ (k : Nat) (x : Int), k ≤ many ∧ i = .int .i64 k ∧ d = .int .i64 x ∧ (k < many → x = fs k) ∧ Grow wr W.heap.size v (daysL fs k) ∧ Below W.heap.size W wr) (fun _ _ i _ => many - (intOf i).toNat)
  case atStart => exact ⟨0, fs 0, Nat.zero_le _, rfl, rfl, fun _ => rfl, Grow.nil _ _, Below.refl _ _⟩
  case round =>
    obtain ⟨k, x, hk, rfl, rfl, hx, hgr, hb⟩ := hrel
    have HG := Lib.hid hgr
    have HB := Lib.hid hb
    have HBW := Lib.hid (HB2.out.trans (hb.mono HB2.out.size))
    have HSB := Lib.hid (Cal.SchIs.below HS2.out hb)
    clear hgr hb
    by_cases hlt : k < many
    · have hlt' : (k : Int) < (many : Int) := by omega
      obtain rfl := hx hlt
      obtain ⟨tk, hatk⟩ := HD.out k hlt
      have hday := (at_day hatk).1
      have hdb : (0 ≤ fs k ∧ fs k ≤ 73048) := of_decide_eq_true hday
      have HATK := Lib.hid hatk
      have hinv := hatk.inv
      have HBX := Lib.hid (kbelow_box wr (.cells #[.int .i64 (fs k)] 3))
      have HGX := Lib.hid (tgrow_below HG.out HBX.out)
      have HBY := Lib.hid (HB.out.trans (HBX.out.mono HB.out.size))
      have HSX := Lib.hid (Cal.SchIs.below HSB.out HBX.out)
      have hlen : (daysL fs k).length ≤ 1000000000 := by rw [daysL_len]; omega
      clear hx hatk
      obtain ⟨hz, hk5, ⟨hK, _, hf, ht⟩ | ⟨hK, k0, m0, d0, hcv, hlim, hf, ht⟩⟩ := hinv
      · have hKle : K ≤ 2 := by omega
        have hNX : Hid (k + 1 < many → fs k + 7 * K = fs (k + 1)) := Lib.hid (fun h => by
          obtain ⟨t2, hat2⟩ := HD.out (k + 1) h
          have := HATK.out.next (by rw [show frm + ((k : Nat) : Int) + 1 = frm + ((k + 1 : Nat) : Int) by omega]; exact hat2)
          omega)
        have i1 : IntKind.i64.wrap (7 * K) = 7 * K := IntWalk.i64_in _ (by omega)
        have i2 : IntKind.i64.wrap (fs k + 7 * K) = fs k + 7 * K := IntWalk.i64_in _ (by omega)
        clear hf ht hz
        go_wp2_with (first
          | (go_at_call 17; refine (Cal.isDay_ref _ _).mono ?_; rintro e w' ⟨rfl, h'⟩; subst w'; rw [hday])
          | (at_builtin; refine wpList_app _ rfl _ _ rfl W.heap.size _ (daysL fs k) rfl HGX.out ⟨wr.heap.size, 0, none⟩ 1 (fs k) rfl (by simp) hlen HBY.out.size ?_; intro v9 w9 hg9 hgr9 hd9 hs9; refine Hid.out ?_))
        have HG9 := Lib.hid hg9
        have HB9 := Lib.hid (HBY.out.grown hgr9 HBY.out.size fun k hk => (HGX.out.lt k hk).1)
        obtain ⟨s0, s1, s2⟩ := Cal.SchIs.below HS2.out HB9.out
        clear hg9 hgr9 hd9 hs9
        unfold Hid
        go_wp2_with fail
        go_roundw
        case rel => exact ⟨k + 1, fs k + 7 * K, by omega, by go_num, rfl, hNX.out, by rw [daysL_succ]; exact HG9.out, HB9.out⟩
        case measure => simp [intOf]; omega
      · have hKle : ¬ K ≤ 2 := by omega
        have hKB : decide (K ≤ 2) = false := decide_eq_false hKle
        have hidx := Cal.idx_in hK hcv
        have HAF : Hid (∀ W', Calls Tryz.prog 44 #[.agg #[.int .i64 K, .int .i64 A, .int .i64 L], .int .i64 (fs k)] W' fun e w' => e = .returned (.int .i64 (tk + 1)) ∧ Below W'.heap.size W' w') := fun W' => by
          have h := Cal.after_ref K A L (Cal.idx K k0 m0 d0 + (frm + k)) W' hK (by omega) hlim
          rw [← hf, show Cal.stt K (Cal.idx K k0 m0 d0 + (frm + k) + 1) = tk + 1 by omega] at h
          exact h
        have hNX : Hid (k + 1 < many → tk + 1 = fs (k + 1)) := Lib.hid (fun h => by
          obtain ⟨t2, hat2⟩ := HD.out (k + 1) h
          exact (HATK.out.next (by rw [show frm + ((k : Nat) : Int) + 1 = frm + ((k + 1 : Nat) : Int) by omega]; exact hat2)).symm)
        clear hf ht hz hidx hlim hcv
        go_wp2_with (first
          | (go_at_call 17; refine (Cal.isDay_ref _ _).mono ?_; rintro e w' ⟨rfl, h'⟩; subst w'; rw [hday])
          | (at_builtin; refine wpList_app _ rfl _ _ rfl W.heap.size _ (daysL fs k) rfl HGX.out ⟨wr.heap.size, 0, none⟩ 1 (fs k) rfl (by simp) hlen HBY.out.size ?_; intro v9 w9 hg9 hgr9 hd9 hs9; refine Hid.out ?_))
        have HG9 := Lib.hid hg9
        have HB9 := Lib.hid (HBY.out.grown hgr9 HBY.out.size fun k hk => (HGX.out.lt k hk).1)
        obtain ⟨s0, s1, s2⟩ := Cal.SchIs.below HS2.out HB9.out
        clear hg9 hgr9 hd9 hs9
        unfold Hid
        go_wp2_with fail
        refine (HAF.out _).mono ?_
        rintro e w10 ⟨rfl, hb10⟩
        have HB10 := Lib.hid (HB9.out.trans (hb10.mono HB9.out.size))
        have HG10 := Lib.hid (tgrow_below HG9.out hb10)
        clear hb10 s0 s1 s2
        go_wp2_with fail
        go_roundw
        case rel => exact ⟨k + 1, tk + 1, by omega, by go_num, rfl, hNX.out, by rw [daysL_succ]; exact HG10.out, HB10.out⟩
        case measure => simp [intOf]; omega
    · obtain rfl : k = many := by omega
      have hltB : decide ((k : Int) < (k : Int)) = false := decide_eq_false (by omega)
      have HGE := Lib.hid (grow_mono HG.out (Nat.le_of_lt hsb))
      clear hx
      go_wp2_with fail
      go_ret
      exact ⟨_, rfl, HGE.out, HBW.out⟩
end Go.Proofs.YtonceehdmnkffaaGreatDoor
set_option linter.unusedSimpArgs false
namespace Go.Proofs.YtonceehdmnkffaaGreatDoor
open Go.RowKit Go.Sort

theorem inV_best {l : List Hst.Rw} {d s : Int} (h : Hst.histE l = 0) (hd : Hst.dayB d = true) (hs : Hst.dayB s = true) : Hst.atV (Hst.best l d s l.length) = inV l d s := by
  have e1 : Hst.dayE l [d, s] = 0 := by unfold Hst.dayE; rw [if_neg (by simp [h]), if_pos (by simp [hd, hs])]
  unfold inV
  rw [if_pos e1]
set_option maxRecDepth 100000 in
set_option maxHeartbeats 2000000 in
theorem inputsAt_ref (p : Pl) (al at' ai : Option Addr) (nl nt ni cl ct ci : Nat) (day seen : Int) (w : World) (hc : CameI w ai p.ins) (h3 : p.ins.length = ni) (hni : ni ≤ 30) (hok : ∀ j, j < ni → Hst.histE (inth p.ins j).rows = 0) (hd : Hst.dayB day = true) (hs : Hst.dayB seen = true) :
    Calls Tryz.prog 41 #[.agg #[.int .i64 p.K, .int .i64 p.A, .int .i64 p.L, .slice al nl cl, .slice at' nt ct, .slice ai ni ci], .int .i64 day, .int .i64 seen] w fun e w' => ∃ x c, e = .returned (.slice x ni c) ∧ CameA w' x (insAt p day seen ni) ∧ Below w.heap.size w w' := by
  have HB0 := Lib.hid (kbelow_box w (.cells #[.int .i64 p.K, .int .i64 p.A, .int .i64 p.L, .slice al nl cl, .slice at' nt ct, .slice ai ni ci] 28))
  have HP0 := Lib.hid (PBox.made w p.K p.A p.L al at' ai nl nt ni cl ct ci)
  have hs0 : (w.alloc (.cells #[.int .i64 p.K, .int .i64 p.A, .int .i64 p.L, .slice al nl cl, .slice at' nt ct, .slice ai ni ci] 28)).heap.size = w.heap.size + 1 := by simp
  have HO := Lib.hid (fun h0 => hc.open h3 h0)
  have HOK := Lib.hid hok
  have HD := Lib.hid (And.intro hd hs)
  clear hc h3 hok hd hs
  go_enter Tryz.func41, Tryz.ntmps41
  go_wp2_with fail
  generalize (w.alloc (.cells #[.int .i64 p.K, .int .i64 p.A, .int .i64 p.L, .slice al nl cl, .slice at' nt ct, .slice ai ni ci] 28)) = W at *
  go_loopw [7, 8] (fun v i wr => ∃ k : Nat, k ≤ ni ∧ i = .int .i64 k ∧ GrowA wr (w.heap.size + 1) v (insAt p day seen k) ∧ PBox wr w.heap.size p.K p.A p.L al at' ai nl nt ni cl ct ci ∧ Below w.heap.size w wr ∧ w.heap.size + 1 ≤ wr.heap.size) (fun _ i _ => ni - (intOf i).toNat)
  case atStart => exact ⟨0, Nat.zero_le _, rfl, GrowA.nil _ _, HP0.out, HB0.out, by omega⟩
  case round =>
    clear HB0 HP0 hs0
    obtain ⟨k, hk, rfl, hgr, hpb, hb, hsz⟩ := hrel
    have HG := Lib.hid hgr
    have HB := Lib.hid hb
    have HP := Lib.hid hpb
    clear hgr hb hpb
    obtain ⟨_, x0, x1, x2, x3, x4, x5⟩ := HP.out
    by_cases hlt : k < ni
    · have hlt' : (k : Int) < (ni : Int) := by omega
      obtain ⟨b, off, rfl, hcell⟩ := HO.out (by omega)
      obtain ⟨aj, cj, y0, y1, hcr, hns, hrm⟩ := hcell wr HB.out k hlt
      obtain ⟨nm, hnm⟩ : ∃ nm, (inth p.ins k).name = nm := ⟨_, rfl⟩
      obtain ⟨rs, hrs⟩ : ∃ rs, (inth p.ins k).rows = rs := ⟨_, rfl⟩
      rw [hnm] at y0
      rw [hrs] at y1 hcr hrm
      have hh := HOK.out k hlt
      rw [hrs] at hh
      have HIV := Lib.hid (inV_best hh HD.out.1 HD.out.2)
      have hm50 : rs.length ≤ 50 := (Hst.histE_ok hh).1
      obtain ⟨m, hm⟩ : ∃ m, rs.length = m := ⟨_, rfl⟩
      rw [hm] at y1 hrm HIV hm50
      have HRS := Lib.hid hrs
      have HNM := Lib.hid hnm
      have HAR := Lib.hid (Hst.at_ref aj m cj rs day seen wr hcr hm hm50 (Hst.histE_ok hh).2.1)
      clear hcell hns hrs hnm hm hcr hrm hh
      go_wp2_with fail
      refine HAR.out.mono ?_
      rintro e w4 ⟨rfl, hb4⟩
      rw [HIV.out]
      obtain ⟨z, hz⟩ : ∃ z, inV rs day seen = z := ⟨_, rfl⟩
      rw [hz]
      have HZ := Lib.hid hz
      have HBN := Lib.hid (HB.out.trans (hb4.mono HB.out.size))
      have z5 := (hb4.cell (p := ⟨w.heap.size, 5, none⟩) (blt_of_cell x5)).trans x5
      have zn := (hb4.cell (p := ⟨b, off + k * 2, none⟩) (blt_of_cell y0)).trans y0
      have HG4 := Lib.hid (HG.out.below hb4)
      have HP4 := Lib.hid (HP.out.below hb4 HP.out.1)
      have hs4 : w.heap.size + 1 ≤ w4.heap.size := Nat.le_trans hsz hb4.size
      have HBX := Lib.hid (kbelow_box w4 (.cells #[.string nm, .int .i64 z] 72))
      have HGX := Lib.hid (HG4.out.below HBX.out)
      have HPX := Lib.hid (HP4.out.below HBX.out HP4.out.1)
      have HAB := Lib.hid (aat_box w4 nm z)
      have HBY := Lib.hid (HBN.out.trans (HBX.out.mono HBN.out.size))
      have hsx : w.heap.size + 1 ≤ (w4.alloc (.cells #[.string nm, .int .i64 z] 72)).heap.size := Nat.le_trans hs4 HBX.out.size
      have hlen : ((insAt p day seen k).length + 1) * 24 ≤ 140737488355328 := by unfold insAt; rw [inAms_len]; omega
      clear hb4 hz x0 x1 x2 x3 x4 x5 y0 y1 HAR
      go_wp2_with (at_builtin; refine wpList_app_ams _ rfl _ _ rfl (w.heap.size + 1) _ (insAt p day seen k) rfl HGX.out w4.heap.size 0 1 1 [⟨nm, z⟩] rfl HAB.out rfl hlen hsx ?_; intro v9 w9 hg9 hgr9 hb9; refine Hid.out ?_)
      have HG9 := Lib.hid hg9
      have HB9 := Lib.hid hb9
      clear hg9 hgr9 hb9
      unfold Hid
      go_wp2_with fail
      go_roundw
      case rel => exact ⟨k + 1, by omega, by go_num, by
          have e : insAt p day seen (k + 1) = insAt p day seen k ++ [⟨nm, z⟩] := by unfold insAt; rw [inAms, HNM.out, HRS.out, HZ.out]
          rw [e]; exact HG9.out, HPX.out.below HB9.out (by omega), HBY.out.trans (HB9.out.mono (by omega)), Nat.le_trans hsx HB9.out.size⟩
      case measure => simp [intOf]; omega
    · obtain rfl : k = ni := by omega
      have hltB : decide ((k : Int) < (k : Int)) = false := decide_eq_false (by omega)
      obtain ⟨x, c, rfl, hca⟩ := HG.out.slice
      have hil : (insAt p day seen k).length = k := by unfold insAt; exact inAms_len _ _ _
      rw [hil]
      have HCA := Lib.hid hca
      clear hca hil
      go_wp2_with fail
      go_ret
      exact ⟨x, c, rfl, HCA.out, HB.out⟩
end Go.Proofs.YtonceehdmnkffaaGreatDoor
namespace Go.Proofs.YtonceehdmnkffaaGreatDoor
open Go.RowKit Go.Sort

theorem line_name {l : List Ln} (h : linesE l = 0) {j : Nat} (hj : j < l.length) : NameP (lnth l j).name := by
  unfold linesE at h
  split at h
  · cases h
  · have := firstE_zero h j hj
    unfold lineE at this
    split at this
    · cases this
    · split at this
      · assumption
      · cases this
theorem best_mon {l : List Hst.Rw} (h : Hst.rowsB l = true) (d s : Int) : ∀ k, k ≤ l.length → Hst.monB (Hst.best l d s k).val = true
  | 0, _ => rfl
  | k + 1, hk => by
    rw [Hst.best]
    split
    · have := Hst.rowsB_nth h (show k < l.length by omega)
      unfold Hst.rowB at this
      simp only [Bool.and_eq_true] at this
      exact this.1.2
    · exact best_mon h d s k (by omega)
theorem inV_mon {l : List Hst.Rw} (h : Hst.histE l = 0) (d s : Int) : monB (inV l d s) = true := by
  unfold inV
  split
  · have hb : Hst.monB (Hst.best l d s l.length).val = true := best_mon (Hst.histE_ok h).2.1 d s l.length (Nat.le_refl _)
    unfold Hst.atV
    split
    · rfl
    · exact hb
  · rfl
theorem upN_congr {f g : Nat → ByteArray} {n : Nat} (h : ∀ j, j < n → f j = g j) : upN f n = upN g n := by
  unfold upN
  refine Bool.eq_iff_iff.2 ?_
  rw [List.all_eq_true, List.all_eq_true]
  constructor
  · intro q j hj
    have hj' := List.mem_range.1 hj
    rw [← h (j + 1) (by omega), ← h j (by omega)]
    exact q j hj
  · intro q j hj
    have hj' := List.mem_range.1 hj
    rw [h (j + 1) (by omega), h j (by omega)]
    exact q j hj
/-- Inputs of the same names, whatever money: right, just if the others are. -/
theorem ins_right {l : List In} {m m' : Nat → Int} {k : Nat} (h : amsE (inAms l m k) = 0) (hm : ∀ j, j < k → monB (m' j) = true) : amsE (inAms l m' k) = 0 := by
  unfold amsE at h
  split at h
  · cases h
  · next h1 =>
    split at h
    · cases h
    · split at h
      · cases h
      · next h3 =>
        have a1 : ansB (inAms l m' k) = true := all_of fun j hj => by
          rw [inAms_len] at hj
          have h1' : ansB (inAms l m k) = true := by simpa using h1
          have := all_nth (P := anB) h1' (j := j) (by rw [inAms_len]; exact hj)
          rw [inAms_at l m k j hj] at this
          rw [inAms_at l m' k j hj]
          exact this
        have a2 : amsB (inAms l m' k) = true := all_of fun j hj => by
          rw [inAms_len] at hj
          rw [inAms_at l m' k j hj]
          exact hm j hj
        have a3 : upN (fun j => (anth (inAms l m' k) j).name) (inAms l m' k).length = true := by
          rw [inAms_len] at h3 ⊢
          rw [← upN_congr (f := fun j => (anth (inAms l m k) j).name) fun j hj => by rw [inAms_at l m k j hj, inAms_at l m' k j hj]]
          simpa using h3
        unfold amsE
        rw [if_neg (by simp [a1]), if_neg (by simp [a2]), if_neg (by simp [a3])]
theorem yrs_right {p : Pl} {sums : List Int} {nl : Nat} {yrs : List Am} (h1 : p.lns.length = nl) (hE : linesE p.lns = 0) (hap : LApart p) (h : YrsOf p.lns sums nl yrs) : amsE yrs = 0 ∨ amsE yrs = 3 := by
  have a1 : ansB yrs = true := all_of fun j hj => by
    obtain ⟨i, hi, e⟩ := yrsK_mem (h.1.subset (anth_mem hj))
    rw [e]
    exact decide_eq_true (line_name hE (by omega))
  have nd : ∀ i j, i < j → j < yrs.length → (anth yrs i).name ≠ (anth yrs j).name := by
    intro i j hij hj e
    have hp := h.1.symm
    have hpw : (yrsK p.lns sums nl).Pairwise fun a b => a.name ≠ b.name := by
      have key : ∀ k, k ≤ nl → (yrsK p.lns sums k).Pairwise fun a b => a.name ≠ b.name := by
        intro k
        induction k with
        | zero => intro _; exact List.Pairwise.nil
        | succ k ih =>
          intro hk
          rw [yrsK]
          split
          · exact ih (by omega)
          · rw [List.pairwise_append]
            refine ⟨ih (by omega), List.pairwise_singleton _ _, fun a ha b hb => ?_⟩
            obtain ⟨q, hq, rfl⟩ := yrsK_mem ha
            have hb' : b = ⟨(lnth p.lns k).name, nth sums k⟩ := by simpa using hb
            rw [hb']
            exact hap q k hq (by omega)
      exact key nl (Nat.le_refl _)
    have hpy : yrs.Pairwise fun a b => a.name ≠ b.name := (h.1.pairwise_iff (fun {a b} hab => fun e => hab e.symm)).2 hpw
    rw [List.pairwise_iff_getElem] at hpy
    have := hpy i j (by omega) hj hij
    rw [show anth yrs i = yrs[i] by simp [anth, List.getD_eq_getElem?_getD, show i < yrs.length by omega], show anth yrs j = yrs[j] by simp [anth, List.getD_eq_getElem?_getD, hj]] at e
    exact this e
  have a3 : upN (fun j => (anth yrs j).name) yrs.length = true := by
    rw [upN_iff]
    intro j hj
    have hw := h.2 j (j + 1) (by omega) hj
    unfold leS
    rw [show Op.bytesLess (anth yrs (j + 1)).name.toList (anth yrs j).name.toList = false from hw, Bool.false_or]
    have hne := nd j (j + 1) (by omega) hj
    rw [Bool.eq_false_iff]
    intro e
    have e' : (anth yrs (j + 1)).name.toList = (anth yrs j).name.toList := by simpa using e
    rw [ByteArray.toList_eq, ByteArray.toList_eq] at e'
    refine hne ?_
    have e2 : (anth yrs (j + 1)).name.data = (anth yrs j).name.data := by simpa using e'
    cases hx : (anth yrs (j + 1)).name
    cases hy : (anth yrs j).name
    rw [hx, hy] at e2
    simp only at e2
    rw [e2]
  unfold amsE
  rw [if_neg (by simp [a1])]
  split
  · exact .inr rfl
  · rw [if_neg (by simp [a3])]
    exact .inl rfl
theorem PlanIs.known {p : Pl} (h : PlanIs p 0) : linesE p.lns = 0 ∧ knE (knP p) = 0 ∧ ∀ j, j < p.lns.length → lineOk p.lns (knP p) j = 0 := by
  rcases h with ⟨h, h'⟩ | ⟨_, h, h'⟩ | ⟨_, _, _, h'⟩ | ⟨_, _, _, _, h, h'⟩ | ⟨_, hl, _, _, _, i, hb⟩
  · exact absurd h'.symm h
  · exact absurd h'.symm h
  · cases h'
  · exact absurd h'.symm h
  · rcases hb with ⟨q1, _, q2⟩ | ⟨_, q1, _, q2⟩ | ⟨q1, q2, ⟨_, _, q3⟩ | ⟨_, _, _, _, q, _⟩⟩
    · exact absurd q2.symm q1
    · exact absurd q2.symm q1
    · exact ⟨q1, q2, q3⟩
    · exact absurd rfl q
theorem knE_parts {k : Kn} (h : knE k = 0) : k.ins.length ≤ 30 ∧ k.tbs.length ≤ 30 ∧ k.yrs.length ≤ 30 ∧ amsE k.ins = 0 ∧ amsE k.yrs = 0 ∧ tbsE k.tbs = 0 := by
  unfold knE at h
  split at h
  · cases h
  · next q =>
    split at h
    · next h1 =>
      split at h
      · next h2 => exact ⟨by omega, by omega, by omega, h1, h2, h⟩
      · next h2 => exact absurd h h2
    · next h1 => exact absurd h h1
/-- What is known at a period is right, but for what is no money. -/
theorem knAt_right {p : Pl} {f seen : Int} {nl ni : Nat} {sums : List Int} {yrs : List Am} (hp : PlanIs p 0) (h1 : p.lns.length = nl) (h3 : p.ins.length = ni) (hy : YrsOf p.lns sums nl yrs) : knE (knAt p f seen ni yrs) = 0 ∨ knE (knAt p f seen ni yrs) = 3 := by
  obtain ⟨hE, hK, _⟩ := hp.known
  obtain ⟨q1, q2, _, q4, _, q6⟩ := knE_parts hK
  unfold knP at q1 q2 q4 q6
  simp only [inAms_len] at q1
  have q2' : p.tbs.length ≤ 30 := q2
  have hlen : yrs.length ≤ 30 := by
    have := hy.1.length_eq
    have := yrsK_len p.lns sums nl
    have := hp.small.1
    omega
  have hins : amsE (insAt p f seen ni) = 0 := by
    unfold insAt
    rw [← h3]
    exact ins_right q4 fun j hj => inV_mon (hp.hist j hj) f seen
  have hil : (insAt p f seen ni).length ≤ 30 := by unfold insAt; rw [inAms_len]; omega
  unfold knE knAt
  simp only
  rw [if_neg (by omega), if_pos hins]
  rcases yrs_right h1 hE hp.apart hy with e | e
  · rw [if_pos e]; exact .inl q6
  · rw [if_neg (by rw [e]; decide)]; exact .inr e
/-- Lines are bound by names alone. -/
theorem lineOk_at {p : Pl} {f seen : Int} {ni : Nat} {yrs : List Am} (h3 : p.ins.length = ni) (j : Nat) : lineOk p.lns (knAt p f seen ni yrs) j = lineOk p.lns (knP p) j := by
  have e1 : valsK p.lns (knAt p f seen ni yrs) j = valsK p.lns (knP p) j := by
    funext s
    unfold valsK
    have e : lastN (fun j => (anth (knAt p f seen ni yrs).ins j).name) (knAt p f seen ni yrs).ins.length s = lastN (fun j => (anth (knP p).ins j).name) (knP p).ins.length s := by
      unfold knAt knP insAt
      simp only [inAms_len]
      rw [h3]
      have key : ∀ n, n ≤ ni → lastN (fun j => (anth (inAms p.ins (fun j => inV (inth p.ins j).rows f seen) ni) j).name) n s = lastN (fun j => (anth (inAms p.ins (fun _ => 0) ni) j).name) n s := by
        intro n
        induction n with
        | zero => intro _; rfl
        | succ n ih =>
          intro hn
          rw [lastN, lastN, ih (by omega), inAms_at _ _ _ n (by omega), inAms_at _ _ _ n (by omega)]
      exact key ni (Nat.le_refl _)
    rw [e]
  have e2 : tabsG (knAt p f seen ni yrs) = tabsG (knP p) := rfl
  unfold lineOk
  rw [e1, e2]
theorem bind_err {p : Pl} {f seen i er : Int} {nl ni : Nat} {sums : List Int} {yrs : List Am} (hp : PlanIs p 0) (h1 : p.lns.length = nl) (h3 : p.ins.length = ni) (hy : YrsOf p.lns sums nl yrs) (h : BindIs p.lns (knAt p f seen ni yrs) i er) (h0 : er ≠ 0) : er = 3 := by
  obtain ⟨hE, _, hok⟩ := hp.known
  rcases h with ⟨q, _⟩ | ⟨_, q, _, e⟩ | ⟨_, _, ⟨_, e, _⟩ | ⟨j, hj, _, e, _⟩⟩
  · exact absurd hE q
  · rcases knAt_right (f := f) (seen := seen) hp h1 h3 hy with q' | q'
    · exact absurd q' q
    · rw [e, q']
  · exact absurd e h0
  · rw [lineOk_at h3, hok j hj] at e
    exact absurd e h0
/-- Which error is due, said once. -/
def FreshX (p : Pl) (frm to seen : Int) (nl ni : Nat) (er : Int) : Prop :=
  (PlanIs p er ∧ er ≠ 0) ∨ (PlanIs p 0 ∧ ¬ AskOk frm to seen ∧ er = 3) ∨ (PlanIs p 0 ∧ AskOk frm to seen ∧ 60 ≤ to - frm ∧ er = 2) ∨
  (PlanIs p 0 ∧ AskOk frm to seen ∧ to - frm < 60 ∧ er = 3 ∧ ∀ (n : Nat) (y : Int) (s : List Int) (o : List (List Int)), frm + n = to + 1 → ¬ Runs p seen frm nl ni n y s o)
theorem FreshX.unique {p : Pl} {frm to seen : Int} {nl ni : Nat} {er er' : Int} (h : FreshX p frm to seen nl ni er) (h' : FreshX p frm to seen nl ni er') : er = er' := by
  rcases h with ⟨h, h0⟩ | ⟨h, a, rfl⟩ | ⟨h, a, b, rfl⟩ | ⟨h, a, b, rfl, _⟩ <;> rcases h' with ⟨h', h0'⟩ | ⟨h', a', rfl⟩ | ⟨h', a', b', rfl⟩ | ⟨h', a', b', rfl, _⟩ <;>
  first
  | rfl
  | exact h.unique h'
  | exact absurd (h.unique h') h0
  | exact absurd (h'.unique h) h0'
  | exact absurd a' a
  | exact absurd a a'
  | omega
theorem at_err {K A L c f t e : Int} (hz : Cal.schedE K A L = 0) (h : Cal.AtIs K A L c f t e) (h0 : e ≠ 0) : e = 3 := by
  rcases h with ⟨q, _⟩ | ⟨_, ⟨_, _, _, q⟩ | ⟨_, h⟩⟩
  · exact absurd hz q
  · exact q
  · rcases h with ⟨_, h⟩ | ⟨_, _, _, _, _, h⟩ | ⟨_, _, _, _, _, h⟩
    · rcases h with ⟨_, _, _, q⟩ | ⟨_, _, _, q⟩
      · exact q
      · exact absurd q h0
    · rcases h with ⟨_, _, _, q⟩ | ⟨_, _, _, q⟩
      · exact q
      · exact absurd q h0
    · rcases h with ⟨_, _, _, q⟩ | ⟨_, _, _, _, q⟩ | ⟨_, _, _, _, q⟩
      · exact q
      · exact absurd q h0
      · exact absurd q h0
theorem PlanIs.sched {p : Pl} (h : PlanIs p 0) : Cal.schedE p.K p.A p.L = 0 := by
  rcases h with ⟨h, h'⟩ | ⟨h, _⟩ | ⟨h, _⟩ | ⟨h, _⟩ | ⟨h, _⟩
  · exact absurd h'.symm h
  · exact h
  · exact h
  · exact h
  · exact h
theorem FreshE.x {p : Pl} {frm to seen : Int} {nl ni : Nat} {er : Int} (h : FreshE p frm to seen nl ni er) (h0 : er ≠ 0) (h1 : p.lns.length = nl) (h3 : p.ins.length = ni) (w : World) : FreshX p frm to seen nl ni er := by
  have hh := h
  rcases h with h | ⟨hp, ⟨a, e⟩ | ⟨a, b, e⟩ | ⟨a, b, n, y, s, o, hn, hr, hend⟩⟩
  · exact .inl ⟨h, h0⟩
  · exact .inr (.inl ⟨hp, a, e⟩)
  · exact .inr (.inr (.inl ⟨hp, a, b, e⟩))
  · refine .inr (.inr (.inr ⟨hp, a, b, ?_, fun n' y' s' o' hn' hr' => ?_⟩))
    · rcases hend with ⟨f, t, hat⟩ | ⟨f, t, d, k, m, yrs, _, _, hy, ⟨i, hb⟩ | ⟨_, e, _⟩⟩
      · exact at_err hp.sched hat h0
      · exact bind_err hp h1 h3 hy hb h0
      · exact e
    · exact h0 (FreshR.runs (w := w) (w' := w) (rv := .slice none 0 0) (.inl ⟨h0, rfl, hh⟩) h1 hp a b hn' hr').1
end Go.Proofs.YtonceehdmnkffaaGreatDoor
