/-
  Lists of amounts of the call's own, that others are appended to; a copy of a list; strings.Builder; an amount's box.
-/
import Derived.Test.YtmchanddfodhaaaDoorShChk
import Derived.Test.YtmchanddfodhaaaDoorBShelf
import Derived.Lib.OwnBridge
import Derived.Sort.Grow
import Derived.Maps.AppendAt
import Derived.Deep.RegionLaw
import Derived.Deep.RegionHeld3
import Derived.Deep.RegionWith
import Derived.Laws.IdiomCopy
import Derived.Laws.MakeOwn
import Derived.OwnWalk
import Derived.Lib.Walk
import Derived.Lib.SliceRun
import Derived.Lib.Repeat
namespace Go.Proofs.YtmchanddfodhaaaDoor
open Go.RowKit Go.Sort Mny

instance : Inhabited Am := ⟨⟨⟨#[]⟩, 0⟩⟩
def encA (x : Am) : List Value := [.string x.name, .int .i64 x.mon]
def cellsL : List Am → List Value
  | [] => []
  | r :: l => encA r ++ cellsL l
theorem cellsL_length : ∀ l : List Am, (cellsL l).length = l.length * 2
  | [] => rfl
  | r :: l => by
    rw [cellsL, List.length_append, cellsL_length l, List.length_cons]
    simp [encA]
    omega
theorem cellsL_append : ∀ l m : List Am, cellsL (l ++ m) = cellsL l ++ cellsL m
  | [], _ => rfl
  | r :: l, m => by rw [List.cons_append, cellsL, cellsL, cellsL_append l m, List.append_assoc]
theorem anth_cons (r : Am) (l : List Am) (k : Nat) : anth (r :: l) (k + 1) = anth l k := rfl
theorem anth_zero (r : Am) (l : List Am) : anth (r :: l) 0 = r := rfl
theorem cellsL_get : ∀ (l : List Am) (k c : Nat), k < l.length → c < 2 → (cellsL l)[k * 2 + c]? = (encA (anth l k))[c]?
  | [], k, c, hk, _ => absurd hk (by simp)
  | r :: l, 0, c, _, hc => by
    rw [cellsL, anth_zero, List.getElem?_append_left (by simp [encA]; omega), Nat.zero_mul, Nat.zero_add]
  | r :: l, k + 1, c, hk, hc => by
    rw [cellsL, anth_cons, List.getElem?_append_right (by simp [encA]; omega), ← cellsL_get l k c (by simpa using hk) hc]
    congr 1
    simp [encA]
    omega
theorem encA_one (x : Am) : ∀ v ∈ encA x, v.oneCell' = true := by
  intro v hv
  simp only [encA, List.mem_cons, List.not_mem_nil, or_false] at hv
  rcases hv with rfl | rfl <;> rfl
theorem cellsL_one : ∀ (l : List Am) (u : Value), u ∈ cellsL l → u.oneCell' = true
  | [], u, h => by simp [cellsL] at h
  | r :: l, u, h => by
    rw [cellsL, List.mem_append] at h
    rcases h with h | h
    · exact encA_one r u h
    · exact cellsL_one l u h
theorem holds_of_aat {w : World} {b off : Nat} {l : List Am} (h : AAt w b off l) : ∀ j u, (cellsL l)[j]? = some u → w.cell? ⟨b, off + j, none⟩ = some u := by
  intro j u hu
  have hj : j < l.length * 2 := by
    rw [← cellsL_length]
    by_cases h' : j < (cellsL l).length
    · exact h'
    · rw [List.getElem?_eq_none (by omega)] at hu; cases hu
  have hk : j / 2 < l.length := by omega
  obtain ⟨h0, h1⟩ := h.2 (j / 2) hk
  have hje : j / 2 * 2 + j % 2 = j := by omega
  have hg := cellsL_get l (j / 2) (j % 2) hk (by omega)
  rw [hje, hu] at hg
  have hc : j % 2 = 0 ∨ j % 2 = 1 := by omega
  rcases hc with hc | hc <;> rw [hc] at hg hje <;> simp only [encA, List.getElem?_cons_zero, List.getElem?_cons_succ, Option.some.injEq] at hg <;> subst hg
  · rw [show off + j = off + j / 2 * 2 from by omega]; exact h0
  · rw [show off + j = off + j / 2 * 2 + 1 from by omega]; exact h1
theorem info_am : (Tryd.prog.info? 45).map (fun i => (i.zero, i.size, i.bytes)) = some (some (.agg #[.string ⟨#[]⟩, .int .i64 0]), 2, 24) := by kernel_rfl
/-- The slice v, nil or of the call's own from block B on, holds the amounts l. -/
def GrowA (w : World) (B : Nat) (v : Value) (l : List Am) : Prop := w.ownsRow B 45 2 v l.length (cellsL l)
theorem GrowA.nil (w : World) (B : Nat) : GrowA w B (.slice none 0 0) [] := World.ownsRow_nil _ _ _ _
theorem GrowA.alloc {w : World} {B : Nat} {v : Value} {l : List Am} (h : GrowA w B v l) (o : Obj) : GrowA (w.alloc o) B v l := World.ownsRow.alloc h o
theorem GrowA.lt {w : World} {B : Nat} {v : Value} {l : List Am} (h : GrowA w B v l) : ∀ k, v.ownBlock = some k → B ≤ k ∧ k < w.heap.size := World.ownsRow.lt h
theorem GrowA.kept {w w' : World} {B : Nat} {v : Value} {l : List Am} {row : Option Nat} (h : GrowA w B v l) (hg : w.grownBy w' row) (hr : ∀ r, row = some r → r < B) : GrowA w' B v l := by
  refine World.ownsRow.kept h hg ?_
  cases hv : v.ownBlock with
  | none => exact .inl rfl
  | some k =>
    refine .inr (fun e => ?_)
    have := hr k e.symm
    have := (h.lt k hv).1
    omega
theorem GrowA.below {w w' : World} {B : Nat} {v : Value} {l : List Am} (h : GrowA w B v l) (hb : Go.RowKit.Below w.heap.size w w') : GrowA w' B v l := by
  refine World.ownsRow.kept (row := none) h ⟨hb.os, hb.tape, hb.output, hb.size, fun k hk _ => hb.block k hk⟩ ?_
  cases v.ownBlock with
  | none => exact .inl rfl
  | some k => exact .inr (Option.some_ne_none k)
theorem GrowA.form {w : World} {B : Nat} {v : Value} {l : List Am} (h : GrowA w B v l) : (v = .slice none 0 0 ∧ l = []) ∨ ∃ g c, v = .slice (some ⟨g, 0, none⟩) l.length c ∧ B ≤ g ∧ AAt w g 0 l ∧ l.length ≤ c := by
  have hh := h
  rcases h.2 with ⟨h1, h2⟩ | ⟨g, c, cur, h1, h2, hgc, h4, _⟩
  · exact .inl ⟨h1, List.eq_nil_of_length_eq_zero h2⟩
  · subst h1
    have key : ∀ j, j < l.length → ∀ c, c < 2 → ∀ u, (encA (anth l j))[c]? = some u → w.cell? ⟨g, j * 2 + c, none⟩ = some u := fun j hj c hc u hu => by
      have := World.ownsRow.cells hh (g := g) rfl (j * 2 + c) u ((cellsL_get l j c hj hc).trans hu)
      rwa [Addr.add_lit, Nat.zero_add] at this
    refine .inr ⟨g, c, rfl, h2, ⟨(GrowA.lt hh g rfl).2, fun j hj => ?_⟩, h4⟩
    rw [Nat.zero_add]
    exact ⟨key j hj 0 (by omega) _ rfl, key j hj 1 (by omega) _ rfl⟩
theorem GrowA.slice {w : World} {B : Nat} {v : Value} {l : List Am} (h : GrowA w B v l) : ∃ x c, v = .slice x l.length c ∧ CameA w x l := by
  rcases h.form with ⟨h1, h2⟩ | ⟨g, c, h1, _, h3, _⟩
  · subst h2; exact ⟨none, 0, h1, .inl rfl⟩
  · exact ⟨_, c, h1, .inr ⟨g, 0, rfl, h3⟩⟩
theorem run_app_ams (w : World) (ty : TypeId) (B : Nat) (v : Value) (l : List Am) (hown : GrowA w B v l) (b off m c : Nat) (news : List Am) (hsrc : AAt w b off news) (hm : news.length = m)
    (hb : (l.length + m) * 24 ≤ 140737488355328) (hB : B ≤ w.heap.size) :
    ∃ v' w', (Builtin.append_ #[22, 22] ty #[v, .slice (some ⟨b, off, none⟩) m c]).run Tryd.prog w = .ok v' w' ∧ GrowA w' B v' (l ++ news) ∧ w.grownBy w' v.ownBlock ∧ Go.RowKit.Below B w w' := by
  obtain ⟨i0, hi, hz0, hz1, hz2⟩ := info_parts info_am
  have hnews : ∀ j u, (cellsL news)[j]? = some u → w.cell? ((⟨b, off, none⟩ : Addr).add j) = some u := by
    intro j u hu
    rw [Addr.add_lit]
    exact holds_of_aat hsrc j u hu
  obtain ⟨v', w', hr, h2, h3, _, h5⟩ := run_append_own_at (P := Tryd.prog) w B 22 ty 45 i0 _ 2 24 Tryd.underlying22 hi hz0 hz1 hz2 rfl (by decide) v l.length (cellsL l) hown ⟨b, off, none⟩ m c (cellsL news) (by rw [cellsL_length, hm]) hnews (cellsL_one news) (by unfold maxLen; omega) hb hB
  refine ⟨v', w', hr, ?_, h3, (Below.refl B w).grown h3 hB fun k hk => (GrowA.lt hown k hk).1⟩
  unfold GrowA
  rw [List.length_append, hm, cellsL_append]
  exact h2
theorem wpList_app_ams {ops : Array Oper} {rest : List Oper} {o : Oper} {a : Act} {Q : Exit → Act → World → Prop} (w : World) (hgd : o.guard = none) (s x : Operand)
    (ho : o.op = .call { callee := .builtin .append, args := #[s, x], argTypes := #[22, 22] })
    (B : Nat) (v : Value) (l : List Am) (hs : a.eval s = v) (hown : GrowA w B v l) (b off m c : Nat) (news : List Am) (hx : a.eval x = .slice (some ⟨b, off, none⟩) m c) (hsrc : AAt w b off news) (hm : news.length = m)
    (hb : (l.length + m) * 24 ≤ 140737488355328) (hB : B ≤ w.heap.size)
    (h : ∀ v' w', GrowA w' B v' (l ++ news) → w.grownBy w' v.ownBlock → Go.RowKit.Below B w w' → wpList Tryd.prog ops Q rest (a.put o.dst v') w') :
    wpList Tryd.prog ops Q (o :: rest) a w := by
  obtain ⟨v', w', hr, h2, h3, h4⟩ := run_app_ams w o.type B v l hown b off m c news hsrc hm hb hB
  refine wpList_plain hgd fun _ hK => ?_
  unfold Oper.wp execOp
  simp only [ho, resolve, invoke, builtin, Sem.run_bind, Sem.run_pure, Result.andThen_ok, List.map_toArray, List.map_cons, List.map_nil, hs, hx, hr]
  exact hK _ _ (h v' w' h2 h3 h4)
theorem eqInA (w : World) (d : Nat) (a : Option Addr) (l c : Nat) : (Op.equalIn (d + 1) 22 (.slice a l c) (.slice none 0 0)).run Tryd.prog w = .ok a.isNone w := by
  cases a <;> simp [Op.equalIn, run_underlying Tryd.underlying22]
theorem equalA (w : World) (a : Option Addr) (l c : Nat) : (Op.equal 22 (.slice a l c) (.slice none 0 0)).run Tryd.prog w = .ok a.isNone w := eqInA w 9999 a l c
theorem eqlA (w : World) (a : Option Addr) (l c : Nat) : (binOp .eql 22 (.slice a l c) (.slice none 0 0)).run Tryd.prog w = .ok (.bool a.isNone) w := by
  simp [binOp, equalA w a l c]
theorem wpList_run_app {ops : Array Oper} {rest : List Oper} {o : Oper} {a : Act} {Q : Exit → Act → World → Prop} (w : World) (hgd : o.guard = none) (s x : Operand) (t : TypeId)
    (ho : o.op = .call { callee := .builtin .append, args := #[s, x], argTypes := #[t, t] }) {v u : Value} (hs : a.eval s = v) (hx : a.eval x = u) {P : Value → World → Prop}
    (hrun : ∃ v' w', (Builtin.append_ #[t, t] o.type #[v, u]).run Tryd.prog w = .ok v' w' ∧ P v' w')
    (h : ∀ v' w', P v' w' → wpList Tryd.prog ops Q rest (a.put o.dst v') w') :
    wpList Tryd.prog ops Q (o :: rest) a w := by
  obtain ⟨v', w', hr, h2⟩ := hrun
  refine wpList_plain hgd fun _ hK => ?_
  unfold Oper.wp execOp
  simp only [ho, resolve, invoke, builtin, Sem.run_bind, Sem.run_pure, Result.andThen_ok, List.map_toArray, List.map_cons, List.map_nil, hs, hx, hr]
  exact hK _ _ (h v' w' h2)
theorem run_cloneA (w : World) (ty : TypeId) (g0 : Nat) (hg0 : GrowA w g0 (.slice (some ⟨g0, 0, none⟩) 0 0) []) (ad : Addr) (n c : Nat) (l : List Am) (hl : l.length = n) (hsrc : n = 0 ∨ ∃ b off, ad = ⟨b, off, none⟩ ∧ AAt w b off l) (hn : n * 24 ≤ 140737488355328) :
    ∃ v' w', (Builtin.append_ #[22, 22] ty #[.slice (some ⟨g0, 0, none⟩) 0 0, .slice (some ad) n c]).run Tryd.prog w = .ok v' w' ∧ (GrowA w' g0 v' l ∧ Go.RowKit.Below g0 w w') := by
  obtain ⟨i0, hi, hz0, hz1, hz2⟩ := info_parts info_am
  have hlt : g0 < w.heap.size := (GrowA.lt hg0 g0 rfl).2
  have hnews : ∀ j u, (cellsL l)[j]? = some u → w.cell? (ad.add j) = some u := by
    intro j u hu
    rcases hsrc with h0 | ⟨b, off, rfl, hc⟩
    · rw [List.eq_nil_of_length_eq_zero (hl.trans h0)] at hu
      simp [cellsL] at hu
    · rw [Addr.add_lit]
      exact holds_of_aat hc j u hu
  obtain ⟨v', w', hr, h2, h3, _, h5⟩ := run_append_own_at (P := Tryd.prog) w g0 22 ty 45 i0 _ 2 24 Tryd.underlying22 hi hz0 hz1 hz2 rfl (by decide) (.slice (some ⟨g0, 0, none⟩) 0 0) 0 [] hg0 ad n c (cellsL l) (by rw [cellsL_length, hl]) hnews (cellsL_one l) (by unfold maxLen; omega) (by omega) (by omega)
  refine ⟨v', w', hr, ?_, (Below.refl g0 w).grown h3 (by omega) fun k hk => ?_⟩
  · unfold GrowA
    rw [Nat.zero_add, List.nil_append] at h2
    rw [hl]
    exact h2
  · simp [Value.ownBlock] at hk
    omega
set_option maxRecDepth 100000 in
set_option maxHeartbeats 1000000 in
theorem clone_any (a : Option Addr) (n cap : Nat) (l : List Am) (w : World) (hc : CameA w a l) (hl : l.length = n) (hn : n * 24 ≤ 140737488355328) :
    Calls Tryd.prog 17 #[.slice a n cap] w fun e w' => ∃ v, e = .returned v ∧ GrowA w' w.heap.size v l ∧ Go.RowKit.Below w.heap.size w w' := by
  cases a with
  | none =>
    have h0 : l = [] := by
      rcases hc with h | ⟨b, off, e, _⟩
      · exact List.eq_nil_of_length_eq_zero h
      · cases e
    have HG : Hid (GrowA w w.heap.size (.slice none 0 0) l) := by unfold Hid; rw [h0]; exact GrowA.nil _ _
    clear h0 hc hn hl
    have hq := eqlA
    go_enter Tryd.func17, Tryd.ntmps17
    go_wp2_with fail
    go_ret
    exact ⟨_, rfl, HG.out, Below.refl _ _⟩
  | some ad =>
    have HG0 : Hid (GrowA (w.alloc (.cells #[] 45)) w.heap.size (.slice (some ⟨w.heap.size, 0, none⟩) 0 0) []) := World.ownsRow_made (w := w) (base := w.heap.size) (e := 45) (size := 2) #[] 0 (Nat.le_refl _) (Nat.zero_le _) rfl
    have HB0 := Lib.hid (kbelow_box w (.cells #[] 45))
    have HC : Hid (n = 0 ∨ ∃ b off, ad = ⟨b, off, none⟩ ∧ AAt (w.alloc (.cells #[] 45)) b off l) := by
      rcases hc with h | ⟨b, off, e, h⟩
      · exact .inl (hl.symm.trans h)
      · cases e
        exact .inr ⟨b, off, rfl, h.below HB0.out h.1⟩
    have HNN := Lib.hid hn
    have HL := Lib.hid hl
    clear hc hn hl
    have hq := eqlA
    go_enter Tryd.func17, Tryd.ntmps17
    go_wp2_with (first | (at_builtin; refine wpList_run_app _ rfl _ _ _ rfl rfl rfl (run_cloneA _ _ w.heap.size HG0.out ad n cap l HL.out HC.out HNN.out) ?_; rintro v' w2 ⟨hcl, hbel⟩))
    go_ret
    exact ⟨_, rfl, hcl, HB0.out.trans hbel⟩
/-- A strings.Builder that holds the bytes l. -/
def Bld (w : World) (B b : Nat) (l : List UInt8) : Prop := Lib.IsBuilderF 42 5 B b (Lib.byteCells l) w
theorem Bld.fresh (w : World) : Bld (w.alloc (.cells #[.pointer none, .slice none 0 0] 42)) w.heap.size w.heap.size [] := by
  exact .inl ⟨Nat.le_refl _, .slice none 0 0, (MapKept.heap_alloc w _).1, World.ownsRowF_nil _ _ _ _, by simp [Value.ownBlock]⟩
theorem Bld.below {w w' : World} {B b : Nat} {l : List UInt8} (h : Bld w B b l) (hb : Go.RowKit.Below w.heap.size w w') : Bld w' B b l := by
  have hg : w.grownBy w' (none : Option Nat) := ⟨hb.os, hb.tape, hb.output, hb.size, fun k hk _ => hb.block k hk⟩
  have key : ∀ p, Lib.BuilderAtF 42 5 B b p (Lib.byteCells l) w → Lib.BuilderAtF 42 5 B b p (Lib.byteCells l) w' := by
    rintro p ⟨h1, v, h2, h3, h4⟩
    have hlt : b < w.heap.size := (Array.getElem?_eq_some_iff.1 h2).1
    refine ⟨h1, v, by rw [hb.block b hlt]; exact h2, h3.kept hg ?_, h4⟩
    cases v.ownBlock with
    | none => exact .inl rfl
    | some k => exact .inr (Option.some_ne_none k)
  rcases h with h | h
  · exact .inl (key _ h)
  · exact .inr (key _ h)
theorem Bld.grown {w w' : World} {B b : Nat} {l : List UInt8} {C : Nat} {v : Value} {la : List Am} (h : Bld w B b l) (hgr : w.grownBy w' v.ownBlock) (hb : Go.RowKit.Below C w w') (hG : GrowA w C v la) (hC : b < C) : Bld w' B b l := by
  have hne : ∀ e, v.ownBlock = some e → C ≤ e ∧ ∀ c fz, w.heap[e]? ≠ some (.cells c 5 fz) := by
    intro e he
    rcases hG.2 with ⟨e1, _⟩ | ⟨g', cp, cur, e1, e2, e3, _⟩
    · subst e1; cases he
    · subst e1
      have : g' = e := by simpa [Value.ownBlock] using he
      subst this
      exact ⟨e2, fun c fz q => by rw [e3] at q; cases q⟩
  have key : ∀ p, Lib.BuilderAtF 42 5 B b p (Lib.byteCells l) w → Lib.BuilderAtF 42 5 B b p (Lib.byteCells l) w' := by
    rintro p ⟨h1, v1, h2, h3, h4⟩
    refine ⟨h1, v1, by rw [hb.block b hC]; exact h2, h3.kept hgr ?_, h4⟩
    cases hv : v1.ownBlock with
    | none => exact .inl rfl
    | some q =>
      refine .inr fun e => ?_
      obtain ⟨_, h5⟩ := hne q e.symm
      rcases h3.2 with ⟨e1, _⟩ | ⟨g', cp, cur, fz, e1, _, e3, _⟩
      · subst e1; cases hv
      · subst e1
        have : g' = q := by simpa [Value.ownBlock] using hv
        subst this
        exact h5 cur fz e3
  rcases h with h | h
  · exact .inl (key _ h)
  · exact .inr (key _ h)
theorem Bld.lt {w : World} {B b : Nat} {l : List UInt8} (h : Bld w B b l) : b < w.heap.size := by
  rcases h with ⟨_, v, h2, _⟩ | ⟨_, v, h2, _⟩ <;> exact (Array.getElem?_eq_some_iff.1 h2).1
theorem write_any (B b : Nat) (l : List UInt8) (s : ByteArray) (w : World) (h : Bld w B b l) (hl : l.length + s.size ≤ 1000000) (hB : B ≤ w.heap.size) :
    Calls Tryd.prog 20 #[.pointer (some ⟨b, 0, none⟩), .string s] w fun e w' => e = .returned (.tuple #[.int .i64 s.size, .nilIface]) ∧ Bld w' B b (l ++ s.data.toList) ∧ Go.RowKit.Below B w w' ∧ Lib.OthersKept 5 (some b) w w' := by
  refine (sh_WriteString_k B b (Lib.byteCells l) s w h (by rw [Lib.byteCells_length]; omega) hB).mono ?_
  rintro e w' ⟨he, h1, h2, h3⟩
  refine ⟨he, .inr ?_, h2, h3⟩
  rw [Lib.byteCells_append]
  exact h1
theorem string_any (B b : Nat) (l : List UInt8) (w : World) (h : Bld w B b l) (hB : B ≤ w.heap.size) :
    Calls Tryd.prog 22 #[.pointer (some ⟨b, 0, none⟩)] w fun e w' => e = .returned (.string ⟨l.toArray⟩) ∧ Go.RowKit.Below B w w' :=
  (sh_String_k B b l w h hB).mono fun _ _ ⟨h1, _, h2, _⟩ => ⟨h1, h2⟩
theorem join_run {a b : ByteArray} (h : a.size + b.size ≤ 1000000) (w : World) : (Op.stringOp .add a b).run Tryd.prog w = .ok (.string (a ++ b)) w := run_string_add_sum w a b (by omega)
theorem repeatL_one (c : UInt8) : ∀ n, Lib.repeatL [c] n = List.replicate n c := by
  intro n
  induction n with
  | zero => simp [Lib.repeatL]
  | succ k ih => simpa [Lib.repeatL, List.replicate_succ] using ih
/-- A block that is kept: what it holds is what it held. -/
theorem cell_of_block {w w' : World} {b : Nat} (h : w'.heap[b]? = w.heap[b]?) (o : Nat) : w'.cell? ⟨b, o, none⟩ = w.cell? ⟨b, o, none⟩ := by
  simp [World.cell?, h]
/-- An amount's box. -/
def ABox (w : World) (g : Nat) (nm : ByteArray) (mo : Int) : Prop := w.heap[g]? = some (.cells #[.string nm, .int .i64 mo] 45 (0, 0))
theorem ABox.cells {w : World} {g : Nat} {nm : ByteArray} {mo : Int} (h : ABox w g nm mo) : w.cell? ⟨g, 0, none⟩ = some (.string nm) ∧ w.cell? ⟨g, 1, none⟩ = some (.int .i64 mo) := by
  unfold ABox at h
  refine ⟨?_, ?_⟩ <;> simp [World.cell?, h]
theorem ABox.lt {w : World} {g : Nat} {nm : ByteArray} {mo : Int} (h : ABox w g nm mo) : g < w.heap.size := (Array.getElem?_eq_some_iff.1 h).1
theorem ABox.below {w w' : World} {g : Nat} {nm : ByteArray} {mo : Int} (h : ABox w g nm mo) (hb : Go.RowKit.Below w.heap.size w w') : ABox w' g nm mo := by
  unfold ABox
  rw [hb.block g h.lt]
  exact h
theorem ABox.others {w w' : World} {g b : Nat} {nm : ByteArray} {mo : Int} (h : ABox w g nm mo) (ho : Lib.OthersKept 5 (some b) w w') (hb : g ≠ b) : ABox w' g nm mo :=
  ho g _ h (by intro e; cases e; exact hb rfl) (by intro c fz e; cases e)
theorem ABox.made (w : World) (nm : ByteArray) (mo : Int) : ABox (w.alloc (.cells #[.string nm, .int .i64 mo] 45)) w.heap.size nm mo := (MapKept.heap_alloc w _).1
/-- A row of amounts that stands, block g as it was in W. -/
def Stands (W w : World) (g : Nat) : Prop := (∃ c, W.heap[g]? = some (.cells c 45 (0, 0))) ∧ w.heap[g]? = W.heap[g]? ∧ g < w.heap.size
theorem Stands.below {W w w' : World} {g : Nat} (h : Stands W w g) (hb : Go.RowKit.Below w.heap.size w w') : Stands W w' g :=
  ⟨h.1, (hb.block g h.2.2).trans h.2.1, Nat.lt_of_lt_of_le h.2.2 hb.size⟩
theorem Stands.others {W w w' : World} {g b : Nat} (h : Stands W w g) (ho : Lib.OthersKept 5 (some b) w w') (hb : g ≠ b) : Stands W w' g := by
  obtain ⟨⟨c, hc⟩, h2, h3⟩ := h
  have := ho g _ (h2.trans hc) (by intro e; cases e; exact hb rfl) (by intro c fz e; cases e)
  exact ⟨⟨c, hc⟩, this.trans hc.symm, (Array.getElem?_eq_some_iff.1 this).1⟩
theorem Stands.am {W w : World} {g o : Nat} {r : Am} (h : Stands W w g) (ha : AmIs W g o r) : AmIs w g o r :=
  ⟨(cell_of_block h.2.1 _).trans ha.1, (cell_of_block h.2.1 _).trans ha.2⟩
theorem GrowA.stands {w : World} {B : Nat} {v : Value} {l : List Am} (h : GrowA w B v l) (h0 : 0 < l.length) : ∃ g c, v = .slice (some ⟨g, 0, none⟩) l.length c ∧ B ≤ g ∧ AAt w g 0 l ∧ Stands w w g := by
  rcases h.form with ⟨_, h2⟩ | ⟨g, c, h1, h2, h3, _⟩
  · subst h2; simp at h0
  · refine ⟨g, c, h1, h2, h3, ?_, rfl, h3.1⟩
    rcases h.2 with ⟨e1, _⟩ | ⟨g', cp, cur, e1, _, e3, _⟩
    · rw [h1] at e1; cases e1
    · rw [h1] at e1
      injection e1 with e1
      injection e1 with e1
      injection e1 with e1
      subst e1
      exact ⟨cur, e3⟩
end Go.Proofs.YtmchanddfodhaaaDoor
