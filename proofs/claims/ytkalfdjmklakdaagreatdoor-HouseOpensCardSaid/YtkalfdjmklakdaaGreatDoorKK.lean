/-
  Promise N1: plans: inputs in memory, how they are opened; what is wrong with a plan.
  Promise N1: lists of amounts of the call's own, that others are appended to; a plan in its box.
  Promise N1: one error alone is a plan's.
  Promise N1: the walk of retro.Check.
  Promise N1: the reference's CheckPlan: where something is wrong ahead of the inputs.
  An append of amounts, in a region that draws.
  Promise N1: the reference's CheckPlan: the inputs, and how lines are bound.
  Promise N1: the reference's CheckPlan, whole.
  A plan that is handed in: how it is opened.
-/
import Derived.Test.YtkalfdjmklakdaaGreatDoorKE
import Derived.Test.YtkalfdjmklakdaaGreatDoorKG
import Derived.Test.YtkalfdjmklakdaaGreatDoorKI
import Derived.Lib.OwnBridge
import Derived.Sort.Grow
import Derived.Maps.AppendAt
import Derived.Deep.RegionLaw
import Derived.Laws.IdiomCopy
import Derived.Laws.MakeOwn
import Derived.OwnWalk
import Derived.Lib.Walk
import Derived.Lib.SliceRun
namespace Go.Proofs.YtkalfdjmklakdaaGreatDoor
open Go.RowKit
structure In where
 name : ByteArray
 rows : List Hst.Rw
def inth (l : List In) (j : Nat) : In := l.getD j ⟨⟨#[]⟩, []⟩
def InIs (w : World) (b o : Nat) (r : In) : Prop := ∃ (a : Option Addr) (c : Nat), w.cell? ⟨b, o, none⟩ = some (.string r.name) ∧ w.cell? ⟨b, o + 1, none⟩ = some (.slice a r.rows.length c) ∧ Hst.CameR w a r.rows ∧ r.name.size ≤ maxLen ∧ r.rows.length ≤ maxLen
theorem InIs.below {w w' : World} {b o : Nat} {r : In} (h : InIs w b o r) (hb : Below w.heap.size w w') (hB : b < w.heap.size) : InIs w' b o r := by
 obtain ⟨a, c, h1, h2, h3, h4⟩ := h
 exact ⟨a, c, (hb.cell (p := ⟨b, o, none⟩) hB).trans h1, (hb.cell (p := ⟨b, o + 1, none⟩) hB).trans h2, h3.below hb, h4⟩
def CameI (w : World) (a : Option Addr) (l : List In) : Prop := l.length = 0 ∨ ∃ b off, a = some ⟨b, off, none⟩ ∧ b < w.heap.size ∧ ∀ j, j < l.length → InIs w b (off + j * 2) (inth l j)
theorem CameI.below {w w' : World} {a : Option Addr} {l : List In} (h : CameI w a l) (hb : Below w.heap.size w w') : CameI w' a l := by
 rcases h with h | ⟨b, off, rfl, h1, h2⟩
 ·exact .inl h
 ·exact .inr ⟨b, off, rfl, Nat.lt_of_lt_of_le h1 hb.size, fun j hj => (h2 j hj).below hb h1⟩
theorem CameI.open {w : World} {a : Option Addr} {l : List In} (h : CameI w a l) {n : Nat} (hn : l.length = n) (h0 : 0 < n) : ∃ b off, a = some ⟨b, off, none⟩ ∧ ∀ w', Below w.heap.size w w' → ∀ k, k < n → InIs w' b (off + k * 2) (inth l k) := by
 rcases h with h | ⟨b, off, rfl, h1, h2⟩
 ·omega
 ·exact ⟨b, off, rfl, fun w' hb k hk => (h2 k (by omega)).below hb h1⟩
theorem icells_in : Tryz.prog.cellsOf 60 = 2 := by kernel_rfl
theorem icells_rs : Tryz.prog.cellsOf 58 = 1 := by kernel_rfl
set_option maxRecDepth 100000 in
theorem open_ins {H : Type} {enc : TypeId × Value → H} {W : World} {fuel : Nat} {v : Value} {x : DataW H × List MemPlace}
 (h : DataW.trod enc Tryz.prog W 0 (fun _ => true) true fuel 55 [v] = some x) :
 ∃ (a : Option Addr) (len cap : Nat) (l : List In), v = .slice a len cap ∧ CameI W a l ∧ l.length = len ∧ len ≤ maxLen := by
 rcases Deep.open_slice Tryz.underlying55 h with ⟨hcs, _⟩ | ⟨a', len, cap, m, n, D, Pl, hcs, hb, hl, hm, hmm, _, hx⟩
 ·simp at hcs
  exact ⟨none, 0, 0, [], hcs, .inl rfl, rfl, Nat.zero_le _⟩
 simp at hcs
 subst hcs
 have hmc : m = cap := by rw [hmm]; simp
 subst hmc
 have each : ∀ i, i < m → ∃ r : In, ∃ (a : Option Addr) (c : Nat), W.cell? (a'.add (i * 2)) = some (.string r.name) ∧ W.cell? (a'.add (i * 2 + 1)) = some (.slice a r.rows.length c) ∧ Hst.CameR W a r.rows ∧ r.name.size ≤ maxLen ∧ r.rows.length ≤ maxLen := by
  intro i hi
  obtain ⟨cs', h1, h2⟩ := hx i hi
  rw [icells_in] at h1
  obtain ⟨_, hlen, hcell⟩ := World.cells?_some h1
  obtain ⟨xs, k, hk, hxy, _, hxl, hf⟩ := DataW.trod_struct Tryz.underlying60 h2
  match xs, hxl, cs', hlen with
  | [y0, y1], _, [v0, v1], _ =>
    have g0 := hf 0 _ rfl
    have g1 := hf 1 _ rfl
    simp [kcells_st, icells_rs] at g0 g1
    obtain ⟨s0, q0, _, hs⟩ := DataW.trod_string Tryz.underlying9 g0
    obtain ⟨a, ln, c, rfl⟩ : ∃ (a : Option Addr) (ln c : Nat), v1 = .slice a ln c := by
     rcases Deep.open_slice Tryz.underlying58 g1 with ⟨q, _⟩ | ⟨a2, l2, c2, _, _, _, _, q, _⟩
     ·simp at q; exact ⟨_, _, _, q⟩
     ·simp at q; exact ⟨_, _, _, q⟩
    obtain ⟨l, hc, hn, hm, _⟩ := Hst.open_rows g1
    simp at q0
    subst q0
    subst hn
    have e0 := hcell 0 (by omega)
    have e1 := hcell 1 (by omega)
    rw [Deep.add_add] at e0 e1
    exact ⟨⟨s0, l⟩, a, c, by simpa using e0, by simpa using e1, hc, hs, hm⟩
 haveI : Inhabited In := ⟨⟨⟨#[]⟩, []⟩⟩
 obtain ⟨q, hq⟩ := Deep.choose_lt each
 have hnth : ∀ j, j < len → inth ((List.range len).map q) j = q j := by
  intro j hj
  simp [inth, List.getD_eq_getElem?_getD, hj]
 refine ⟨some a', len, m, (List.range len).map q, rfl, ?_, by simp, by omega⟩
 by_cases h0 : len = 0
 ·exact .inl (by simp [h0])
 ·obtain ⟨b, off, spot⟩ := a'
  obtain ⟨_, _, hc, _⟩ := hq 0 (by omega)
  have hspot : spot = none := by simpa [Addr.add] using World.cell?_spot hc
  subst hspot
  refine .inr ⟨b, off, rfl, blt_of_cell hc, fun j hj => ?_⟩
  have hj' : j < len := by simpa using hj
  obtain ⟨aj, cj, h1, h2, h3⟩ := hq j (by omega)
  simp only [Addr.add_lit] at h1 h2
  rw [hnth j hj']
  exact ⟨aj, cj, by simpa [Nat.add_assoc] using h1, by simpa [Nat.add_assoc] using h2, h3⟩
structure Pl where
 K : Int
 A : Int
 L : Int
 lns : List Ln
 tbs : List Tb
 ins : List In
structure CameP (w : World) (al at' ai : Option Addr) (p : Pl) : Prop where
 l : CameL w al p.lns
 t : CameT w at' p.tbs
 i : CameI w ai p.ins
 ml : p.lns.length ≤ maxLen
 mt : p.tbs.length ≤ maxLen
 mi : p.ins.length ≤ maxLen
theorem CameP.below {w w' : World} {al at' ai : Option Addr} {p : Pl} (h : CameP w al at' ai p) (hb : Below w.heap.size w w') : CameP w' al at' ai p :=
 ⟨h.l.below hb, h.t.below hb, h.i.below hb, h.ml, h.mt, h.mi⟩
def hisE (l : List In) : Nat → Int
 | 0 => 0
 | k + 1 => if hisE l k = 0 then Hst.histE (inth l k).rows else hisE l k
theorem hisE_ok {l : List In} : ∀ {k : Nat}, (∀ j, j < k → Hst.histE (inth l j).rows = 0) → hisE l k = 0
 | 0, _ => rfl
 | k + 1, h => by rw [hisE, if_pos (hisE_ok fun j hj => h j (by omega)), h k (by omega)]
theorem hisE_all {l : List In} : ∀ {k : Nat}, hisE l k = 0 → ∀ j, j < k → Hst.histE (inth l j).rows = 0
 | 0, _, j, hj => by omega
 | k + 1, h, j, hj => by
   rw [hisE] at h
   split at h
   ·next h0 =>
    by_cases e : j = k
    ·subst e; exact h
    ·exact hisE_all h0 j (by omega)
   ·next h0 => exact absurd h h0
theorem hisE_at {l : List In} {k : Nat} (h : ∀ j, j < k → Hst.histE (inth l j).rows = 0) (hk : Hst.histE (inth l k).rows ≠ 0) : ∀ n, k < n → hisE l n = Hst.histE (inth l k).rows
 | 0, hn => by omega
 | n + 1, hn => by
   by_cases e : n = k
   ·subst e; rw [hisE, if_pos (hisE_ok h)]
   ·rw [hisE, hisE_at h hk n (by omega), if_neg hk]
def inAms (l : List In) (m : Nat → Int) : Nat → List Am
 | 0 => []
 | k + 1 => inAms l m k ++ [⟨(inth l k).name, m k⟩]
theorem inAms_len (l : List In) (m : Nat → Int) : ∀ k, (inAms l m k).length = k
 | 0 => rfl
 | k + 1 => by simp [inAms, inAms_len l m k]
theorem inAms_at (l : List In) (m : Nat → Int) : ∀ (k j : Nat), j < k → anth (inAms l m k) j = ⟨(inth l j).name, m j⟩
 | 0, j, h => by omega
 | k + 1, j, h => by
   by_cases e : j = k
   ·subst e
    simp [anth, inAms, inAms_len]
   ·have ih := inAms_at l m k j (by omega)
    rw [← ih]
    simp [anth, inAms, List.getElem?_append_left, inAms_len, show j < k by omega]
def knP (p : Pl) : Kn := ⟨inAms p.ins (fun _ => 0) p.ins.length, p.tbs, []⟩
def PlanIs (p : Pl) (e : Int) : Prop :=
 (Cal.schedE p.K p.A p.L ≠ 0 ∧ e = Cal.schedE p.K p.A p.L) ∨
 (Cal.schedE p.K p.A p.L = 0 ∧ linesE p.lns ≠ 0 ∧ e = linesE p.lns) ∨
 (Cal.schedE p.K p.A p.L = 0 ∧ linesE p.lns = 0 ∧ (30 < p.lns.length ∨ 30 < p.ins.length) ∧ e = 2) ∨
 (Cal.schedE p.K p.A p.L = 0 ∧ linesE p.lns = 0 ∧ p.lns.length ≤ 30 ∧ p.ins.length ≤ 30 ∧ hisE p.ins p.ins.length ≠ 0 ∧ e = hisE p.ins p.ins.length) ∨
 (Cal.schedE p.K p.A p.L = 0 ∧ linesE p.lns = 0 ∧ p.lns.length ≤ 30 ∧ p.ins.length ≤ 30 ∧ hisE p.ins p.ins.length = 0 ∧ ∃ i, BindIs p.lns (knP p) i e)
end Go.Proofs.YtkalfdjmklakdaaGreatDoor
namespace Go.Proofs.YtkalfdjmklakdaaGreatDoor
open Go.RowKit Go.Sort
instance : Inhabited Am := ⟨⟨⟨#[]⟩, 0⟩⟩
def encA (x : Am) : List Value := [.string x.name, .int .i64 x.mon]
def cellsL : List Am → List Value
 | [] => []
 | r :: l => encA r ++ cellsL l
theorem cellsL_length : ∀ l : List Am, (cellsL l).length = l.length * 2
 | [] => rfl
 | r :: l => by
   rw [cellsL, List.length_append, cellsL_length l, List.length_cons]
   simp [encA]
   omega
theorem cellsL_append : ∀ l m : List Am, cellsL (l ++ m) = cellsL l ++ cellsL m
 | [], _ => rfl
 | r :: l, m => by rw [List.cons_append, cellsL, cellsL, cellsL_append l m, List.append_assoc]
theorem anth_cons (r : Am) (l : List Am) (k : Nat) : anth (r :: l) (k + 1) = anth l k := rfl
theorem anth_zero (r : Am) (l : List Am) : anth (r :: l) 0 = r := rfl
theorem cellsL_get : ∀ (l : List Am) (k c : Nat), k < l.length → c < 2 → (cellsL l)[k * 2 + c]? = (encA (anth l k))[c]?
 | [], k, c, hk, _ => absurd hk (by simp)
 | r :: l, 0, c, _, hc => by
   rw [cellsL, anth_zero, List.getElem?_append_left (by simp [encA]; omega), Nat.zero_mul, Nat.zero_add]
 | r :: l, k + 1, c, hk, hc => by
   rw [cellsL, anth_cons, List.getElem?_append_right (by simp [encA]; omega), ← cellsL_get l k c (by simpa using hk) hc]
   congr 1
   simp [encA]
   omega
theorem encA_one (x : Am) : ∀ v ∈ encA x, v.oneCell' = true := by
 intro v hv
 simp only [encA, List.mem_cons, List.not_mem_nil, or_false] at hv
 rcases hv with rfl | rfl <;> rfl
theorem cellsL_one : ∀ (l : List Am) (u : Value), u ∈ cellsL l → u.oneCell' = true
 | [], u, h => by simp [cellsL] at h
 | r :: l, u, h => by
   rw [cellsL, List.mem_append] at h
   rcases h with h | h
   ·exact encA_one r u h
   ·exact cellsL_one l u h
theorem holds_of_aat {w : World} {b off : Nat} {l : List Am} (h : AAt w b off l) : ∀ j u, (cellsL l)[j]? = some u → w.cell? ⟨b, off + j, none⟩ = some u := by
 intro j u hu
 have hj : j < l.length * 2 := by
  rw [← cellsL_length]
  by_cases h' : j < (cellsL l).length
  ·exact h'
  ·rw [List.getElem?_eq_none (by omega)] at hu; cases hu
 have hk : j / 2 < l.length := by omega
 obtain ⟨h0, h1⟩ := h.2 (j / 2) hk
 have hje : j / 2 * 2 + j % 2 = j := by omega
 have hg := cellsL_get l (j / 2) (j % 2) hk (by omega)
 rw [hje, hu] at hg
 have hc : j % 2 = 0 ∨ j % 2 = 1 := by omega
 rcases hc with hc | hc <;> rw [hc] at hg hje <;> simp only [encA, List.getElem?_cons_zero, List.getElem?_cons_succ, Option.some.injEq] at hg <;> subst hg
 ·rw [show off + j = off + j / 2 * 2 from by omega]; exact h0
 ·rw [show off + j = off + j / 2 * 2 + 1 from by omega]; exact h1
theorem info_am : (Tryz.prog.info? 87).map (fun i => (i.zero, i.size, i.bytes)) = some (some (.agg #[.string ⟨#[]⟩, .int .i64 0]), 2, 24) := by kernel_rfl
def GrowA (w : World) (B : Nat) (v : Value) (l : List Am) : Prop := w.ownsRow B 87 2 v l.length (cellsL l)
theorem GrowA.nil (w : World) (B : Nat) : GrowA w B (.slice none 0 0) [] := World.ownsRow_nil _ _ _ _
theorem GrowA.alloc {w : World} {B : Nat} {v : Value} {l : List Am} (h : GrowA w B v l) (o : Obj) : GrowA (w.alloc o) B v l := World.ownsRow.alloc h o
theorem GrowA.lt {w : World} {B : Nat} {v : Value} {l : List Am} (h : GrowA w B v l) : ∀ k, v.ownBlock = some k → B ≤ k ∧ k < w.heap.size := World.ownsRow.lt h
theorem GrowA.kept {w w' : World} {B : Nat} {v : Value} {l : List Am} {row : Option Nat} (h : GrowA w B v l) (hg : w.grownBy w' row) (hr : ∀ r, row = some r → r < B) : GrowA w' B v l := by
 refine World.ownsRow.kept h hg ?_
 cases hv : v.ownBlock with
 | none => exact .inl rfl
 | some k =>
   refine .inr (fun e => ?_)
   have := hr k e.symm
   have := (h.lt k hv).1
   omega
theorem GrowA.below {w w' : World} {B : Nat} {v : Value} {l : List Am} (h : GrowA w B v l) (hb : Go.RowKit.Below w.heap.size w w') : GrowA w' B v l := by
 refine World.ownsRow.kept (row := none) h ⟨hb.os, hb.tape, hb.output, hb.size, fun k hk _ => hb.block k hk⟩ ?_
 cases v.ownBlock with
 | none => exact .inl rfl
 | some k => exact .inr (Option.some_ne_none k)
theorem GrowA.form {w : World} {B : Nat} {v : Value} {l : List Am} (h : GrowA w B v l) : (v = .slice none 0 0 ∧ l = []) ∨ ∃ g c, v = .slice (some ⟨g, 0, none⟩) l.length c ∧ B ≤ g ∧ AAt w g 0 l ∧ l.length ≤ c := by
 have hh := h
 rcases h.2 with ⟨h1, h2⟩ | ⟨g, c, cur, h1, h2, hgc, h4, _⟩
 ·exact .inl ⟨h1, List.eq_nil_of_length_eq_zero h2⟩
 ·subst h1
  have key : ∀ j, j < l.length → ∀ c, c < 2 → ∀ u, (encA (anth l j))[c]? = some u → w.cell? ⟨g, j * 2 + c, none⟩ = some u := fun j hj c hc u hu => by
   have := World.ownsRow.cells hh (g := g) rfl (j * 2 + c) u ((cellsL_get l j c hj hc).trans hu)
   rwa [Addr.add_lit, Nat.zero_add] at this
  refine .inr ⟨g, c, rfl, h2, ⟨(GrowA.lt hh g rfl).2, fun j hj => ?_⟩, h4⟩
  rw [Nat.zero_add]
  exact ⟨key j hj 0 (by omega) _ rfl, key j hj 1 (by omega) _ rfl⟩
theorem GrowA.slice {w : World} {B : Nat} {v : Value} {l : List Am} (h : GrowA w B v l) : ∃ x c, v = .slice x l.length c ∧ CameA w x l := by
 rcases h.form with ⟨h1, h2⟩ | ⟨g, c, h1, _, h3, _⟩
 ·subst h2; exact ⟨none, 0, h1, .inl rfl⟩
 ·exact ⟨_, c, h1, .inr ⟨g, 0, rfl, h3⟩⟩
theorem run_app_ams (w : World) (ty : TypeId) (B : Nat) (v : Value) (l : List Am) (hown : GrowA w B v l) (b off m c : Nat) (news : List Am) (hsrc : AAt w b off news) (hm : news.length = m)
 (hb : (l.length + m) * 24 ≤ 140737488355328) (hB : B ≤ w.heap.size) :
 ∃ v' w', (Builtin.append_ #[82, 82] ty #[v, .slice (some ⟨b, off, none⟩) m c]).run Tryz.prog w = .ok v' w' ∧ GrowA w' B v' (l ++ news) ∧ w.grownBy w' v.ownBlock ∧ Go.RowKit.Below B w w' := by
 obtain ⟨i0, hi, hz0, hz1, hz2⟩ := info_parts info_am
 have hnews : ∀ j u, (cellsL news)[j]? = some u → w.cell? ((⟨b, off, none⟩ : Addr).add j) = some u := by
  intro j u hu
  rw [Addr.add_lit]
  exact holds_of_aat hsrc j u hu
 obtain ⟨v', w', hr, h2, h3, _, h5⟩ := run_append_own_at (P := Tryz.prog) w B 82 ty 87 i0 _ 2 24 Tryz.underlying82 hi hz0 hz1 hz2 rfl (by decide) v l.length (cellsL l) hown ⟨b, off, none⟩ m c (cellsL news) (by rw [cellsL_length, hm]) hnews (cellsL_one news) (by unfold maxLen; omega) hb hB
 refine ⟨v', w', hr, ?_, h3, (Below.refl B w).grown h3 hB fun k hk => (GrowA.lt hown k hk).1⟩
 unfold GrowA
 rw [List.length_append, hm, cellsL_append]
 exact h2
theorem wpList_app_ams {ops : Array Oper} {rest : List Oper} {o : Oper} {a : Act} {Q : Exit → Act → World → Prop} (w : World) (hgd : o.guard = none) (s x : Operand)
 (ho : o.op = .call { callee := .builtin .append, args := #[s, x], argTypes := #[82, 82] })
 (B : Nat) (v : Value) (l : List Am) (hs : a.eval s = v) (hown : GrowA w B v l) (b off m c : Nat) (news : List Am) (hx : a.eval x = .slice (some ⟨b, off, none⟩) m c) (hsrc : AAt w b off news) (hm : news.length = m)
 (hb : (l.length + m) * 24 ≤ 140737488355328) (hB : B ≤ w.heap.size)
 (h : ∀ v' w', GrowA w' B v' (l ++ news) → w.grownBy w' v.ownBlock → Go.RowKit.Below B w w' → wpList Tryz.prog ops Q rest (a.put o.dst v') w') :
 wpList Tryz.prog ops Q (o :: rest) a w := by
 obtain ⟨v', w', hr, h2, h3, h4⟩ := run_app_ams w o.type B v l hown b off m c news hsrc hm hb hB
 refine wpList_plain hgd fun _ hK => ?_
 unfold Oper.wp execOp
 simp only [ho, resolve, invoke, builtin, Sem.run_bind, Sem.run_pure, Result.andThen_ok, List.map_toArray, List.map_cons, List.map_nil, hs, hx, hr]
 exact hK _ _ (h v' w' h2 h3 h4)
theorem aat_box (w : World) (s : ByteArray) (c : Int) : AAt (w.alloc (.cells #[.string s, .int .i64 c] 87)) w.heap.size 0 [⟨s, c⟩] := by
 refine ⟨by simp, fun j hj => ?_⟩
 obtain rfl : j = 0 := by simpa using hj
 constructor <;> simp [anth]
def planV (K A L : Int) (al at' ai : Option Addr) (nl nt ni cl ct ci : Nat) : Value := .agg #[.int .i64 K, .int .i64 A, .int .i64 L, .slice al nl cl, .slice at' nt ct, .slice ai ni ci]
def PBox (w : World) (b : Nat) (K A L : Int) (al at' ai : Option Addr) (nl nt ni cl ct ci : Nat) : Prop := b < w.heap.size ∧ w.cell? ⟨b, 0, none⟩ = some (.int .i64 K) ∧ w.cell? ⟨b, 1, none⟩ = some (.int .i64 A) ∧ w.cell? ⟨b, 2, none⟩ = some (.int .i64 L) ∧ w.cell? ⟨b, 3, none⟩ = some (.slice al nl cl) ∧ w.cell? ⟨b, 4, none⟩ = some (.slice at' nt ct) ∧ w.cell? ⟨b, 5, none⟩ = some (.slice ai ni ci)
def planO (K A L : Int) (al at' ai : Option Addr) (nl nt ni cl ct ci : Nat) : Obj := .cells #[.int .i64 K, .int .i64 A, .int .i64 L, .slice al nl cl, .slice at' nt ct, .slice ai ni ci] 78
theorem PBox.made (w : World) (K A L : Int) (al at' ai : Option Addr) (nl nt ni cl ct ci : Nat) : PBox (w.alloc (.cells #[.int .i64 K, .int .i64 A, .int .i64 L, .slice al nl cl, .slice at' nt ct, .slice ai ni ci] 78)) w.heap.size K A L al at' ai nl nt ni cl ct ci := by
 refine ⟨?_, ?_, ?_, ?_, ?_, ?_, ?_⟩ <;> simp
theorem PBox.below {w w' : World} {b : Nat} {K A L : Int} {al at' ai : Option Addr} {nl nt ni cl ct ci : Nat} (h : PBox w b K A L al at' ai nl nt ni cl ct ci) {B : Nat} (hb : Below B w w') (hB : b < B) : PBox w' b K A L al at' ai nl nt ni cl ct ci := by
 obtain ⟨h0, h1, h2, h3, h4, h5, h6⟩ := h
 exact ⟨Nat.lt_of_lt_of_le h0 hb.size, (hb.cell (p := ⟨b, 0, none⟩) hB).trans h1, (hb.cell (p := ⟨b, 1, none⟩) hB).trans h2, (hb.cell (p := ⟨b, 2, none⟩) hB).trans h3, (hb.cell (p := ⟨b, 3, none⟩) hB).trans h4, (hb.cell (p := ⟨b, 4, none⟩) hB).trans h5, (hb.cell (p := ⟨b, 5, none⟩) hB).trans h6⟩
def IBox (w : World) (b : Nat) (s : ByteArray) (v : Value) : Prop := b < w.heap.size ∧ w.cell? ⟨b, 0, none⟩ = some (.string s) ∧ w.cell? ⟨b, 1, none⟩ = some v
theorem IBox.made (w : World) (s : ByteArray) (v : Value) : IBox (w.alloc (.cells #[.string s, v] 60)) w.heap.size s v := by
 refine ⟨?_, ?_, ?_⟩ <;> simp
theorem IBox.below {w w' : World} {b : Nat} {s : ByteArray} {v : Value} (h : IBox w b s v) (hb : Below w.heap.size w w') : IBox w' b s v :=
 ⟨Nat.lt_of_lt_of_le h.1 hb.size, (hb.cell (p := ⟨b, 0, none⟩) h.1).trans h.2.1, (hb.cell (p := ⟨b, 1, none⟩) h.1).trans h.2.2⟩
theorem inAms_fit {w : World} {a : Option Addr} {l : List In} (h : CameI w a l) (m : Nat → Int) : ∀ k, k ≤ l.length → NamesFit (inAms l m k)
 | 0, _ => by intro j hj; simp [inAms] at hj
 | k + 1, hk => by
   intro j hj
   rw [inAms_len] at hj
   rw [inAms_at l m (k + 1) j hj]
   obtain ⟨_, _, _, q⟩ := h.open rfl (show 0 < l.length by omega)
   obtain ⟨_, _, _, _, _, q, _⟩ := q w (Below.refl _ _) j (by omega)
   exact q
end Go.Proofs.YtkalfdjmklakdaaGreatDoor
namespace Go.Proofs.YtkalfdjmklakdaaGreatDoor
open Go.RowKit
theorem PlanIs.unique {p : Pl} {e e' : Int} (h : PlanIs p e) (h' : PlanIs p e') : e = e' := by
 rcases h with ⟨a1, a2⟩ | ⟨a1, a2, a3⟩ | ⟨a1, a2, a3, a4⟩ | ⟨a1, a2, a3, a4, a5, a6⟩ | ⟨a1, a2, a3, a4, a5, i, a6⟩ <;>
  rcases h' with ⟨b1, b2⟩ | ⟨b1, b2, b3⟩ | ⟨b1, b2, b3, b4⟩ | ⟨b1, b2, b3, b4, b5, b6⟩ | ⟨b1, b2, b3, b4, b5, j, b6⟩ <;>
  first
   | exact (a6.unique b6).2
   | omega
end Go.Proofs.YtkalfdjmklakdaaGreatDoor
namespace Go.Proofs.YtkalfdjmklakdaaGreatDoor
open Go.RowKit Go.Sort
def PlanRet (w : World) (p : Pl) (e : Ending) (w' : World) : Prop := ∃ er : Int, e = .returned (.int .i64 er) ∧ PlanIs p er ∧ Below w.heap.size w w'
set_option maxRecDepth 100000 in
set_option maxHeartbeats 2000000 in
theorem Check_plan (p : Pl) (al at' ai : Option Addr) (nl nt ni cl ct ci : Nat) (w : World) (hS : Shp w) (hc : CameP w al at' ai p) (h1 : p.lns.length = nl) (h2 : p.tbs.length = nt) (h3 : p.ins.length = ni) :
 Calls Tryz.prog 77 #[.agg #[.int .i64 p.K, .int .i64 p.A, .int .i64 p.L, .slice al nl cl, .slice at' nt ct, .slice ai ni ci]] w fun e w' => PlanRet w p e w' := by
 have HS := Lib.hid hS
 have HC := Lib.hid hc
 have H1 := Lib.hid h1
 have H2 := Lib.hid h2
 have H3 := Lib.hid h3
 have hm1 : nl ≤ 9223372036854775807 := by have := hc.ml; unfold maxLen at this; omega
 have hm3 : ni ≤ 9223372036854775807 := by have := hc.mi; unfold maxLen at this; omega
 clear hS hc h1 h2 h3
 have HB0 := Lib.hid (kbelow_box w (.cells #[.int .i64 p.K, .int .i64 p.A, .int .i64 p.L, .slice al nl cl, .slice at' nt ct, .slice ai ni ci] 78))
 have HP0 := Lib.hid (PBox.made w p.K p.A p.L al at' ai nl nt ni cl ct ci)
 go_enter Tryz.func77, Tryz.ntmps77
 obtain ⟨_, x0, x1, x2, x3, x4, x5⟩ := HP0.out
 go_wp2_with fail
 refine (Cal.Check_any p.K p.A p.L _).mono ?_
 rintro e w1 ⟨rfl, hb1⟩
 have HB1 := Lib.hid (HB0.out.trans (hb1.mono HB0.out.size))
 have HP1 := Lib.hid (HP0.out.below hb1 HP0.out.1)
 clear hb1 HP0 HB0 x0 x1 x2 x3 x4 x5
 by_cases z1 : Cal.schedE p.K p.A p.L = 0
 ·have HZ1 := Lib.hid z1
  rw [z1]
  clear z1
  obtain ⟨_, x0, x1, x2, x3, x4, x5⟩ := HP1.out
  go_wp2_with fail
  refine (check_lines al nl cl p.lns _ (HS.out.below HB1.out) (HC.out.l.below HB1.out) H1.out (by rw [← H1.out]; exact HC.out.ml)).mono ?_
  rintro e w2 ⟨rfl, hb2⟩
  have HB2 := Lib.hid (HB1.out.trans (hb2.mono HB1.out.size))
  have HP2 := Lib.hid (HP1.out.below hb2 HP1.out.1)
  clear hb2 HP1 HB1 x0 x1 x2 x3 x4 x5
  by_cases z2 : linesE p.lns = 0
  ·have HZ2 := Lib.hid z2
   rw [z2]
   clear z2
   obtain ⟨_, x0, x1, x2, x3, x4, x5⟩ := HP2.out
   by_cases z3 : 30 < nl ∨ 30 < ni
   ·have hmx : decide ((30 : Int) < max (nl : Int) (ni : Int)) = true := decide_eq_true (by omega)
    have HZ3 := Lib.hid z3
    clear z3
    go_wp2_with fail
    go_ret
    exact ⟨_, rfl, .inr (.inr (.inl ⟨HZ1.out, HZ2.out, by rw [H1.out, H3.out]; exact HZ3.out, rfl⟩)), HB2.out⟩
   ·have hmx : decide ((30 : Int) < max (nl : Int) (ni : Int)) = false := decide_eq_false (by omega)
    have HZ3 : Hid (p.lns.length ≤ 30 ∧ p.ins.length ≤ 30) := Lib.hid (by rw [H1.out, H3.out]; omega)
    have hni : ni ≤ 30 := by omega
    have HO := Lib.hid (fun h0 => HC.out.i.open H3.out h0)
    have hbw : w.heap.size < w2.heap.size := HP2.out.1
    clear z3
    go_wp2_with fail
    clear x0 x1 x2 x3 x4 x5
    go_loopw [5, 34] (fun v i wr => ∃ k : Nat, k ≤ ni ∧ i = .int .i64 k ∧ hisE p.ins k = 0 ∧ GrowA wr w2.heap.size v (inAms p.ins (fun _ => 0) k) ∧ PBox wr w.heap.size p.K p.A p.L al at' ai nl nt ni cl ct ci ∧ Below w.heap.size w wr ∧ w2.heap.size ≤ wr.heap.size) (fun _ i _ => ni - (intOf i).toNat)
    case atStart => exact ⟨0, Nat.zero_le _, rfl, rfl, GrowA.nil _ _, HP2.out, HB2.out, Nat.le_refl _⟩
    case round =>
     clear HP2 HB2
     obtain ⟨k, hk, rfl, hhis, hgr, hpb, hb, hsz⟩ := hrel
     have HH := Lib.hid hhis
     have HG := Lib.hid hgr
     have HP := Lib.hid hpb
     have HB := Lib.hid hb
     clear hhis hgr hpb hb
     by_cases hlt : k < ni
     ·have hlt' : (k : Int) < (ni : Int) := by omega
      obtain ⟨b, off, rfl, hcell⟩ := HO.out (by omega)
      obtain ⟨aj, cj, y0, y1, hcr, hns, hrm⟩ := hcell wr HB.out k hlt
      obtain ⟨nm, hnm⟩ : ∃ nm, (inth p.ins k).name = nm := ⟨_, rfl⟩
      obtain ⟨rs, hrs⟩ : ∃ rs, (inth p.ins k).rows = rs := ⟨_, rfl⟩
      rw [hnm] at y0
      rw [hrs] at y1 hcr hrm
      obtain ⟨m, hm⟩ : ∃ m, rs.length = m := ⟨_, rfl⟩
      rw [hm] at y1 hrm
      have HNM := Lib.hid hnm
      have HRS := Lib.hid hrs
      have HRN := Lib.hid hm
      have HCR := Lib.hid hcr
      have HRM := Lib.hid hrm
      have HBI := Lib.hid (kbelow_box wr (.cells #[.string nm, .slice aj m cj] 60))
      have HIB := Lib.hid (IBox.made wr nm (.slice aj m cj))
      clear hcell hns hnm hrs hm hcr hrm
      go_wp2_with fail
      refine (Hst.Check_any aj m cj rs _ (HCR.out.below HBI.out) HRN.out HRM.out).mono ?_
      rintro e w4 ⟨rfl, hb4⟩
      have HB4' := Lib.hid (HBI.out.trans (hb4.mono HBI.out.size))
      have HB4 := Lib.hid (HB.out.trans (HB4'.out.mono HB.out.size))
      have HP4 := Lib.hid (HP.out.below HB4'.out HP.out.1)
      have HG4 := Lib.hid (HG.out.below HB4'.out)
      have HI4 := Lib.hid (HIB.out.below hb4)
      clear HBI HIB hb4 y0 y1
      by_cases z4 : Hst.histE rs = 0
      ·have HZ4 := Lib.hid z4
       rw [z4]
       clear z4
       obtain ⟨_, i0, i1⟩ := HI4.out
       have HBX := Lib.hid (kbelow_box w4 (.cells #[.string nm, .int .i64 0] 87))
       have HG5 := Lib.hid (HG4.out.below HBX.out)
       have HB5 := Lib.hid (HB4.out.trans (HBX.out.mono HB4.out.size))
       have HP5 := Lib.hid (HP4.out.below HBX.out HP4.out.1)
       have HAT := Lib.hid (aat_box w4 nm 0)
       have HSZ : Hid (w2.heap.size ≤ (w4.alloc (.cells #[.string nm, .int .i64 0] 87)).heap.size) := Lib.hid (Nat.le_trans hsz (Nat.le_trans HB4'.out.size HBX.out.size))
       clear HBX HG4 HB4 HP4 HI4 HB4'
       go_wp2_with (first
        | (at_builtin; refine wpList_app_ams _ rfl _ _ rfl w2.heap.size _ (inAms p.ins (fun _ => 0) k) rfl HG5.out w4.heap.size 0 1 1 [⟨nm, 0⟩] rfl HAT.out rfl (by rw [inAms_len]; omega) HSZ.out ?_
           rintro v6 w6 hg6 hgr6 hb6
           have HG6 := Lib.hid hg6
           have HB6 := Lib.hid (HB5.out.trans (hb6.mono (by omega)))
           have HP6 := Lib.hid (HP5.out.below hb6 hbw)
           have HS6 := Lib.hid (Nat.le_trans HSZ.out hb6.size)
           clear hg6 hgr6 hb6))
       go_roundw
       case rel => exact ⟨k + 1, by omega, by go_num, by rw [hisE, if_pos HH.out, HRS.out]; exact HZ4.out, by rw [inAms, HNM.out]; exact HG6.out, HP6.out, HB6.out, HS6.out⟩
       case measure => simp [intOf]; omega
      ·have hz4 : decide (Hst.histE rs = 0) = false := decide_eq_false z4
       have HZ4 : Hid (hisE p.ins p.ins.length = Hst.histE rs) := Lib.hid (by rw [← HRS.out]; exact hisE_at (hisE_all HH.out) (by rw [HRS.out]; exact z4) _ (by rw [H3.out]; exact hlt))
       have HZ5 := Lib.hid z4
       go_wp2_with fail
       go_ret
       exact ⟨_, rfl, .inr (.inr (.inr (.inl ⟨HZ1.out, HZ2.out, HZ3.out.1, HZ3.out.2, by rw [HZ4.out]; exact HZ5.out, HZ4.out.symm⟩))), HB4.out⟩
     ·obtain rfl : k = ni := by omega
      obtain ⟨xa, ca, rfl, hca⟩ := HG.out.slice
      have HCA := Lib.hid hca
      have HLK : Hid ((inAms p.ins (fun _ => 0) k).length = k) := inAms_len _ _ _
      rw [HLK.out] at HG ⊢
      obtain ⟨_, x0, x1, x2, x3, x4, x5⟩ := HP.out
      have hlt' : decide ((k : Int) < (k : Int)) = false := decide_eq_false (by omega)
      clear hca
      go_wp2_with fail
      refine (Lines_any al nl cl p.lns xa at' none k nt 0 ca ct 0 (knP p) _ (HS.out.below HB.out) (HC.out.l.below HB.out) H1.out (by rw [← H1.out]; exact HC.out.ml) ⟨by unfold knP; rw [H3.out]; exact HCA.out, HC.out.t.below HB.out, .inl rfl, inAms_fit HC.out.i _ _ (Nat.le_refl _), fun j hj => absurd hj (Nat.not_lt_zero _), by unfold knP; rw [inAms_len]; exact HC.out.mi, HC.out.mt, Nat.zero_le _⟩ (by unfold knP; rw [inAms_len]; exact H3.out) H2.out rfl).mono ?_
      rintro e w7 ⟨i7, e7, rfl, hbi, hb7⟩
      have HB7 := Lib.hid (HB.out.trans (hb7.mono HB.out.size))
      have HBI := Lib.hid hbi
      have HH3 : Hid (hisE p.ins p.ins.length = 0) := Lib.hid (by rw [H3.out]; exact HH.out)
      clear hb7 hbi x0 x1 x2 x3 x4 x5
      go_wp2_with fail
      go_ret
      exact ⟨_, rfl, .inr (.inr (.inr (.inr ⟨HZ1.out, HZ2.out, HZ3.out.1, HZ3.out.2, HH3.out, i7, HBI.out⟩))), HB7.out⟩
  ·have HZ2 := Lib.hid z2
   have hz2 : decide (linesE p.lns = 0) = false := decide_eq_false z2
   go_wp2_with fail
   go_ret
   exact ⟨_, rfl, .inr (.inl ⟨HZ1.out, HZ2.out, rfl⟩), HB2.out⟩
 ·have HZ1 := Lib.hid z1
  have hz1 : decide (Cal.schedE p.K p.A p.L = 0) = false := decide_eq_false z1
  go_wp2_with fail
  go_ret
  exact ⟨_, rfl, .inl ⟨HZ1.out, rfl⟩, HB1.out⟩
end Go.Proofs.YtkalfdjmklakdaaGreatDoor
set_option linter.unusedSimpArgs false
namespace Go.Proofs.YtkalfdjmklakdaaGreatDoor
open Go.RowKit Go.Sort
set_option maxRecDepth 100000 in
set_option maxHeartbeats 2000000 in
theorem checkPlan_sched (p : Pl) (al at' ai : Option Addr) (nl nt ni cl ct ci : Nat) (w : World) (hz : Cal.schedE p.K p.A p.L ≠ 0) (hni : ni ≤ 9223372036854775807) :
 Calls Tryz.prog 42 #[.agg #[.int .i64 p.K, .int .i64 p.A, .int .i64 p.L, .slice al nl cl, .slice at' nt ct, .slice ai ni ci]] w fun e w' => PlanRet w p e w' := by
 have HZ := Lib.hid hz
 have hzB : decide (Cal.schedE p.K p.A p.L = 0) = false := decide_eq_false hz
 have hzC : (Cal.schedE p.K p.A p.L == 0) = false := by simp [hz]
 have HB0 := Lib.hid (kbelow_box w (.cells #[.int .i64 p.K, .int .i64 p.A, .int .i64 p.L, .slice al nl cl, .slice at' nt ct, .slice ai ni ci] 78))
 have HP0 := Lib.hid (PBox.made w p.K p.A p.L al at' ai nl nt ni cl ct ci)
 obtain ⟨_, x0, x1, x2, x3, x4, x5⟩ := HP0.out
 clear hz
 go_enter Tryz.func42, Tryz.ntmps42
 go_wp2_with fail
 refine (Cal.check_ref p.K p.A p.L _).mono ?_
 rintro e w1 ⟨rfl, hb1⟩
 have HB1 := Lib.hid (HB0.out.trans (hb1.mono HB0.out.size))
 have HP1 := Lib.hid (HP0.out.below hb1 HP0.out.1)
 clear hb1 HP0 HB0 x0 x1 x2 x3 x4 x5
 obtain ⟨_, x0, x1, x2, x3, x4, x5⟩ := HP1.out
 have HBY := Lib.hid (kbelow_box w1 (.cells #[.slice none 0 0, .slice at' nt ct, .slice none 0 0] 124))
 have HPK := Lib.hid (HP1.out.below HBY.out HP1.out.1)
 have HBK := Lib.hid (HB1.out.trans (HBY.out.mono HB1.out.size))
 go_wp2_with fail
 clear x0 x1 x2 x3 x4 x5
 go_loopw [3, 5] (fun ev i wr => ev = .int .i64 (Cal.schedE p.K p.A p.L) ∧ i = .int .i64 0 ∧ PBox wr w.heap.size p.K p.A p.L al at' ai nl nt ni cl ct ci ∧ Below w.heap.size w wr) (fun _ _ _ => 0)
 case atStart => exact ⟨rfl, rfl, HPK.out, HBK.out⟩
 case round =>
  obtain ⟨rfl, rfl, hpb, hb⟩ := hrel
  have HB := Lib.hid hb
  obtain ⟨_, x0, x1, x2, x3, x4, x5⟩ := hpb
  clear hb
  by_cases hni0 : (0 : Int) < (ni : Int)
  ·go_wp2_with fail
   go_ret
   exact ⟨_, rfl, .inl ⟨HZ.out, rfl⟩, HB.out⟩
  ·have hni0' : decide ((0 : Int) < (ni : Int)) = false := decide_eq_false hni0
   first
    | (exfalso; omega)
    | (go_wp2_with fail
       go_ret
       exact ⟨_, rfl, .inl ⟨HZ.out, rfl⟩, HB.out⟩)
set_option maxRecDepth 100000 in
set_option maxHeartbeats 2000000 in
theorem checkPlan_lines (p : Pl) (al at' ai : Option Addr) (nl nt ni cl ct ci : Nat) (w : World) (hc : CameP w al at' ai p) (h1 : p.lns.length = nl) (hz : Cal.schedE p.K p.A p.L = 0) (hl : linesE p.lns ≠ 0) (hni : ni ≤ 9223372036854775807) :
 Calls Tryz.prog 42 #[.agg #[.int .i64 p.K, .int .i64 p.A, .int .i64 p.L, .slice al nl cl, .slice at' nt ct, .slice ai ni ci]] w fun e w' => PlanRet w p e w' := by
 have HZ := Lib.hid hz
 have HC := Lib.hid hc
 have H1 := Lib.hid h1
 have HL := Lib.hid hl
 have hlB : decide (linesE p.lns = 0) = false := decide_eq_false hl
 have hlC : (linesE p.lns == 0) = false := by simp [hl]
 clear hz hc h1 hl
 have HB0 := Lib.hid (kbelow_box w (.cells #[.int .i64 p.K, .int .i64 p.A, .int .i64 p.L, .slice al nl cl, .slice at' nt ct, .slice ai ni ci] 78))
 have HP0 := Lib.hid (PBox.made w p.K p.A p.L al at' ai nl nt ni cl ct ci)
 obtain ⟨_, x0, x1, x2, x3, x4, x5⟩ := HP0.out
 go_enter Tryz.func42, Tryz.ntmps42
 go_wp2_with fail
 refine (Cal.check_ref p.K p.A p.L _).mono ?_
 rintro e w1 ⟨rfl, hb1⟩
 rw [HZ.out]
 have HB1 := Lib.hid (HB0.out.trans (hb1.mono HB0.out.size))
 have HP1 := Lib.hid (HP0.out.below hb1 HP0.out.1)
 clear hb1 HP0 HB0 x0 x1 x2 x3 x4 x5
 obtain ⟨_, x0, x1, x2, x3, x4, x5⟩ := HP1.out
 go_wp2_with fail
 refine (checkLines_ref al nl cl p.lns _ (HC.out.l.below HB1.out) H1.out (by rw [← H1.out]; exact HC.out.ml)).mono ?_
 rintro e w2 ⟨rfl, hb2⟩
 have HB2 := Lib.hid (HB1.out.trans (hb2.mono HB1.out.size))
 have HP2 := Lib.hid (HP1.out.below hb2 HP1.out.1)
 clear hb2 HP1 HB1 x0 x1 x2 x3 x4 x5
 obtain ⟨_, x0, x1, x2, x3, x4, x5⟩ := HP2.out
 have HBY := Lib.hid (kbelow_box w2 (.cells #[.slice none 0 0, .slice at' nt ct, .slice none 0 0] 124))
 have HPK := Lib.hid (HP2.out.below HBY.out HP2.out.1)
 have HBK := Lib.hid (HB2.out.trans (HBY.out.mono HB2.out.size))
 go_wp2_with fail
 clear x0 x1 x2 x3 x4 x5
 go_loopw [3, 5] (fun ev i wr => ev = .int .i64 (linesE p.lns) ∧ i = .int .i64 0 ∧ PBox wr w.heap.size p.K p.A p.L al at' ai nl nt ni cl ct ci ∧ Below w.heap.size w wr) (fun _ _ _ => 0)
 case atStart => exact ⟨rfl, rfl, HPK.out, HBK.out⟩
 case round =>
  obtain ⟨rfl, rfl, hpb, hb⟩ := hrel
  have HB := Lib.hid hb
  obtain ⟨_, x0, x1, x2, x3, x4, x5⟩ := hpb
  clear hb
  by_cases hni0 : (0 : Int) < (ni : Int)
  ·go_wp2_with fail
   go_ret
   exact ⟨_, rfl, .inr (.inl ⟨HZ.out, HL.out, rfl⟩), HB.out⟩
  ·have hni0' : decide ((0 : Int) < (ni : Int)) = false := decide_eq_false hni0
   first
    | (exfalso; omega)
    | (go_wp2_with fail
       go_ret
       exact ⟨_, rfl, .inr (.inl ⟨HZ.out, HL.out, rfl⟩), HB.out⟩)
set_option maxRecDepth 100000 in
set_option maxHeartbeats 2000000 in
theorem checkPlan_many (p : Pl) (al at' ai : Option Addr) (nl nt ni cl ct ci : Nat) (w : World) (hc : CameP w al at' ai p) (h1 : p.lns.length = nl) (h3 : p.ins.length = ni) (hz : Cal.schedE p.K p.A p.L = 0) (hl : linesE p.lns = 0) (hm : 30 < nl ∨ 30 < ni) (hni : ni ≤ 9223372036854775807) (hnl : nl ≤ 9223372036854775807) :
 Calls Tryz.prog 42 #[.agg #[.int .i64 p.K, .int .i64 p.A, .int .i64 p.L, .slice al nl cl, .slice at' nt ct, .slice ai ni ci]] w fun e w' => PlanRet w p e w' := by
 have HZ := Lib.hid hz
 have HC := Lib.hid hc
 have H1 := Lib.hid h1
 have H3 := Lib.hid h3
 have HL := Lib.hid hl
 have HM : Hid (30 < p.lns.length ∨ 30 < p.ins.length) := Lib.hid (by rw [h1, h3]; exact hm)
 clear hz hc h1 hl h3
 have HB0 := Lib.hid (kbelow_box w (.cells #[.int .i64 p.K, .int .i64 p.A, .int .i64 p.L, .slice al nl cl, .slice at' nt ct, .slice ai ni ci] 78))
 have HP0 := Lib.hid (PBox.made w p.K p.A p.L al at' ai nl nt ni cl ct ci)
 obtain ⟨_, x0, x1, x2, x3, x4, x5⟩ := HP0.out
 go_enter Tryz.func42, Tryz.ntmps42
 go_wp2_with fail
 refine (Cal.check_ref p.K p.A p.L _).mono ?_
 rintro e w1 ⟨rfl, hb1⟩
 rw [HZ.out]
 have HB1 := Lib.hid (HB0.out.trans (hb1.mono HB0.out.size))
 have HP1 := Lib.hid (HP0.out.below hb1 HP0.out.1)
 clear hb1 HP0 HB0 x0 x1 x2 x3 x4 x5
 obtain ⟨_, x0, x1, x2, x3, x4, x5⟩ := HP1.out
 go_wp2_with fail
 refine (checkLines_ref al nl cl p.lns _ (HC.out.l.below HB1.out) H1.out (by rw [← H1.out]; exact HC.out.ml)).mono ?_
 rintro e w2 ⟨rfl, hb2⟩
 have HB2 := Lib.hid (HB1.out.trans (hb2.mono HB1.out.size))
 have HP2 := Lib.hid (HP1.out.below hb2 HP1.out.1)
 clear hb2 HP1 HB1 x0 x1 x2 x3 x4 x5
 obtain ⟨_, x0, x1, x2, x3, x4, x5⟩ := HP2.out
 have HBY := Lib.hid (kbelow_box w2 (.cells #[.slice none 0 0, .slice at' nt ct, .slice none 0 0] 124))
 have HPK := Lib.hid (HP2.out.below HBY.out HP2.out.1)
 have HBK := Lib.hid (HB2.out.trans (HBY.out.mono HB2.out.size))
 rw [HL.out]
 by_cases hn : 30 < nl
 ·have hn' : decide ((30 : Int) < (nl : Int)) = true := decide_eq_true (by omega)
  go_wp2_with fail
  clear x0 x1 x2 x3 x4 x5
  go_loopw [3, 5] (fun ev i wr => ev = .int .i64 2 ∧ i = .int .i64 0 ∧ PBox wr w.heap.size p.K p.A p.L al at' ai nl nt ni cl ct ci ∧ Below w.heap.size w wr) (fun _ _ _ => 0)
  case atStart => exact ⟨rfl, rfl, HPK.out, HBK.out⟩
  case round =>
   obtain ⟨rfl, rfl, hpb, hb⟩ := hrel
   have HB := Lib.hid hb
   obtain ⟨_, x0, x1, x2, x3, x4, x5⟩ := hpb
   clear hb
   by_cases hni0 : (0 : Int) < (ni : Int)
   ·go_wp2_with fail
    go_ret
    exact ⟨_, rfl, .inr (.inr (.inl ⟨HZ.out, HL.out, HM.out, rfl⟩)), HB.out⟩
   ·have hni0' : decide ((0 : Int) < (ni : Int)) = false := decide_eq_false hni0
    first
     | (exfalso; omega)
     | (go_wp2_with fail
        go_ret
        exact ⟨_, rfl, .inr (.inr (.inl ⟨HZ.out, HL.out, HM.out, rfl⟩)), HB.out⟩)
 ·have hn' : decide ((30 : Int) < (nl : Int)) = false := decide_eq_false (by omega)
  have hn2 : decide ((30 : Int) < (ni : Int)) = true := decide_eq_true (by omega)
  go_wp2_with fail
  clear x0 x1 x2 x3 x4 x5
  go_loopw [3, 5] (fun ev i wr => ev = .int .i64 2 ∧ i = .int .i64 0 ∧ PBox wr w.heap.size p.K p.A p.L al at' ai nl nt ni cl ct ci ∧ Below w.heap.size w wr) (fun _ _ _ => 0)
  case atStart => exact ⟨rfl, rfl, HPK.out, HBK.out⟩
  case round =>
   obtain ⟨rfl, rfl, hpb, hb⟩ := hrel
   have HB := Lib.hid hb
   obtain ⟨_, x0, x1, x2, x3, x4, x5⟩ := hpb
   clear hb
   by_cases hni0 : (0 : Int) < (ni : Int)
   ·go_wp2_with fail
    go_ret
    exact ⟨_, rfl, .inr (.inr (.inl ⟨HZ.out, HL.out, HM.out, rfl⟩)), HB.out⟩
   ·have hni0' : decide ((0 : Int) < (ni : Int)) = false := decide_eq_false hni0
    first
     | (exfalso; omega)
     | (go_wp2_with fail
        go_ret
        exact ⟨_, rfl, .inr (.inr (.inl ⟨HZ.out, HL.out, HM.out, rfl⟩)), HB.out⟩)
end Go.Proofs.YtkalfdjmklakdaaGreatDoor
set_option linter.unusedSimpArgs false
namespace Go.Proofs.YtkalfdjmklakdaaGreatDoor
open Go.RowKit Go.Sort Go.Shelf
theorem step_app_ams {ops : Array Oper} {o : Oper} {a : Act} {K : Act → World → Prop} {Q : Exit → Act → World → Prop} {E : Prop} (w : World) (hgd : o.guard = none) (s x : Operand)
 (ho : o.op = .call { callee := .builtin .append, args := #[s, x], argTypes := #[82, 82] })
 (B : Nat) (v : Value) (l : List Am) (hs : a.eval s = v) (hown : GrowA w B v l) (b off m c : Nat) (news : List Am) (hx : a.eval x = .slice (some ⟨b, off, none⟩) m c) (hsrc : AAt w b off news) (hm : news.length = m)
 (hb : (l.length + m) * 24 ≤ 140737488355328) (hB : B ≤ w.heap.size)
 (h : ∀ v' w', GrowA w' B v' (l ++ news) → w.grownBy w' v.ownBlock → Go.RowKit.Below B w w' → K (a.put o.dst v') w') :
 if Region.wanted o (yielded ops a.tmps) = true then Oper.wp Tryz.prog o a w K Q else E := by
 have hw : Region.wanted o (yielded ops a.tmps) = true := by simp [Region.wanted, hgd]
 rw [if_pos hw]
 obtain ⟨v', w', hr, h2, h3, h4⟩ := run_app_ams w o.type B v l hown b off m c news hsrc hm hb hB
 unfold Oper.wp execOp
 simp only [ho, resolve, invoke, builtin, Sem.run_bind, Sem.run_pure, Result.andThen_ok, List.map_toArray, List.map_cons, List.map_nil, hs, hx, hr]
 exact h v' w' h2 h3 h4
end Go.Proofs.YtkalfdjmklakdaaGreatDoor
set_option linter.unusedSimpArgs false
namespace Go.Proofs.YtkalfdjmklakdaaGreatDoor
open Go.RowKit Go.Sort
theorem hisE_stay {l : List In} {k : Nat} (h : hisE l k ≠ 0) : ∀ n, k ≤ n → hisE l n = hisE l k
 | 0, hn => by have : k = 0 := by omega
               subst this; rfl
 | n + 1, hn => by
   by_cases e : k = n + 1
   ·subst e; rfl
   ·have ih := hisE_stay h n (by omega)
    rw [hisE, if_neg (by rw [ih]; exact h), ih]
set_option maxRecDepth 100000 in
set_option maxHeartbeats 2000000 in
theorem checkPlan_ins (p : Pl) (al at' ai : Option Addr) (nl nt ni cl ct ci : Nat) (w : World) (hc : CameP w al at' ai p) (h1 : p.lns.length = nl) (h2 : p.tbs.length = nt) (h3 : p.ins.length = ni) (hz : Cal.schedE p.K p.A p.L = 0) (hl : linesE p.lns = 0) (hnl : nl ≤ 30) (hni : ni ≤ 30) :
 Calls Tryz.prog 42 #[.agg #[.int .i64 p.K, .int .i64 p.A, .int .i64 p.L, .slice al nl cl, .slice at' nt ct, .slice ai ni ci]] w fun e w' => PlanRet w p e w' := by
 have HZ := Lib.hid hz
 have HC := Lib.hid hc
 have H1 := Lib.hid h1
 have H2 := Lib.hid h2
 have H3 := Lib.hid h3
 have HL := Lib.hid hl
 have HO := Lib.hid (fun h0 => hc.i.open h3 h0)
 have hn1 : decide ((30 : Int) < (nl : Int)) = false := decide_eq_false (by omega)
 have hn2 : decide ((30 : Int) < (ni : Int)) = false := decide_eq_false (by omega)
 clear hz hc h1 h2 h3 hl
 have HB0 := Lib.hid (kbelow_box w (.cells #[.int .i64 p.K, .int .i64 p.A, .int .i64 p.L, .slice al nl cl, .slice at' nt ct, .slice ai ni ci] 78))
 have HP0 := Lib.hid (PBox.made w p.K p.A p.L al at' ai nl nt ni cl ct ci)
 obtain ⟨_, x0, x1, x2, x3, x4, x5⟩ := HP0.out
 go_enter Tryz.func42, Tryz.ntmps42
 go_wp2_with fail
 refine (Cal.check_ref p.K p.A p.L _).mono ?_
 rintro e w1 ⟨rfl, hb1⟩
 rw [HZ.out]
 have HB1 := Lib.hid (HB0.out.trans (hb1.mono HB0.out.size))
 have HP1 := Lib.hid (HP0.out.below hb1 HP0.out.1)
 clear hb1 HP0 HB0 x0 x1 x2 x3 x4 x5
 obtain ⟨_, x0, x1, x2, x3, x4, x5⟩ := HP1.out
 go_wp2_with fail
 refine (checkLines_ref al nl cl p.lns _ (HC.out.l.below HB1.out) H1.out (by rw [← H1.out]; exact HC.out.ml)).mono ?_
 rintro e w2 ⟨rfl, hb2⟩
 rw [HL.out]
 have HB2 := Lib.hid (HB1.out.trans (hb2.mono HB1.out.size))
 have HP2 := Lib.hid (HP1.out.below hb2 HP1.out.1)
 clear hb2 HP1 HB1 x0 x1 x2 x3 x4 x5
 obtain ⟨_, x0, x1, x2, x3, x4, x5⟩ := HP2.out
 have HBY := Lib.hid (kbelow_box w2 (.cells #[.slice none 0 0, .slice at' nt ct, .slice none 0 0] 124))
 have HPK := Lib.hid (HP2.out.below HBY.out HP2.out.1)
 have HBK := Lib.hid (HB2.out.trans (HBY.out.mono HB2.out.size))
 have HKA := Lib.hid (KAt.made w2 (.slice none 0 0) (.slice at' nt ct) (.slice none 0 0) 124)
 have hkf : (w2.alloc (.cells #[.slice none 0 0, .slice at' nt ct, .slice none 0 0] 124)).frozen? ⟨w2.heap.size, 0, none⟩ = false := by simp
 have hs2 : (w2.alloc (.cells #[.slice none 0 0, .slice at' nt ct, .slice none 0 0] 124)).heap.size = w2.heap.size + 1 := by simp
 have hwp : w.heap.size < w2.heap.size := HP2.out.1
 go_wp2_with fail
 clear x0 x1 x2 x3 x4 x5
 generalize (w2.alloc (.cells #[.slice none 0 0, .slice at' nt ct, .slice none 0 0] 124)) = wk at *
 go_loopw [3, 5] (fun ev i wr => ∃ (k : Nat) (u : Value), k ≤ ni ∧ i = .int .i64 k ∧ ev = .int .i64 (hisE p.ins k) ∧ KAt wr w2.heap.size u (.slice at' nt ct) (.slice none 0 0) ∧ wr.frozen? ⟨w2.heap.size, 0, none⟩ = false ∧ GrowA wr (w2.heap.size + 1) u (inAms p.ins (fun _ => 0) k) ∧ PBox wr w.heap.size p.K p.A p.L al at' ai nl nt ni cl ct ci ∧ Below w2.heap.size w2 wr ∧ w2.heap.size + 1 ≤ wr.heap.size) (fun _ i _ => ni - (intOf i).toNat)
 case atStart => exact ⟨0, _, Nat.zero_le _, rfl, rfl, HKA.out, hkf, GrowA.nil _ _, HPK.out, HBY.out, by omega⟩
 case round =>
  clear HKA hkf HPK HBY HBK hs2
  obtain ⟨k, u, hk, rfl, rfl, hka, hkf, hgr, hpb, hb, hsz⟩ := hrel
  have HG := Lib.hid hgr
  have HP := Lib.hid hpb
  have HB := Lib.hid hb
  have HBW := Lib.hid (HB2.out.trans (hb.mono HB2.out.size))
  obtain ⟨hkl, k0, k1, k2⟩ := hka
  obtain ⟨_, x0, x1, x2, x3, x4, x5⟩ := HP.out
  clear hgr hpb hb
  by_cases hlt : k < ni
  ·have hlt' : (k : Int) < (ni : Int) := by omega
   by_cases hz0 : hisE p.ins k = 0
   ·have HZ0 := Lib.hid hz0
    rw [hz0]
    obtain ⟨b, off, rfl, hcell⟩ := HO.out (by omega)
    obtain ⟨aj, cj, y0, y1, hcr, hns, hrm⟩ := hcell wr HBW.out k hlt
    obtain ⟨nm, hnm⟩ : ∃ nm, (inth p.ins k).name = nm := ⟨_, rfl⟩
    obtain ⟨rs, hrs⟩ : ∃ rs, (inth p.ins k).rows = rs := ⟨_, rfl⟩
    rw [hnm] at y0
    rw [hrs] at y1 hcr hrm
    obtain ⟨m, hm⟩ : ∃ m, rs.length = m := ⟨_, rfl⟩
    rw [hm] at y1 hrm
    have HNM := Lib.hid hnm
    have HRS := Lib.hid hrs
    have HRN := Lib.hid hm
    have HCR := Lib.hid hcr
    have HRM := Lib.hid hrm
    clear hcell hns hnm hrs hm hcr hrm hz0
    go_wp2_with fail
    refine (Hst.check_ref aj m cj rs _ HCR.out HRN.out HRM.out).mono ?_
    rintro e w4 ⟨rfl, hb4⟩
    have hbl : b < w2.heap.size := by
     rcases HC.out.i with h | ⟨b', off', e, h, _⟩
     ·have := H3.out; omega
     ·injection e with e; injection e with e1 _ _; subst e1; exact Nat.lt_of_lt_of_le h HB2.out.size
    have HBX := Lib.hid (hb4.trans ((kbelow_box w4 (.cells #[.string nm, .int .i64 0] 87)).mono hb4.size))
    have HG5 : Hid (GrowA ((w4.alloc (.cells #[.string nm, .int .i64 0] 87)).drew) (w2.heap.size + 1) u (inAms p.ins (fun _ => 0) k)) := HG.out.below (kbelow_dN HBX.out 1)
    have HAB : Hid (AAt ((w4.alloc (.cells #[.string nm, .int .i64 0] 87)).drew) w4.heap.size 0 [⟨nm, 0⟩]) := aat_box w4 nm 0
    have HS5 : Hid (w2.heap.size + 1 ≤ ((w4.alloc (.cells #[.string nm, .int .i64 0] 87)).drew).heap.size) := Nat.le_trans hsz HBX.out.size
    have z5 := (hb4.cell (p := ⟨w.heap.size, 5, none⟩) (blt_of_cell x5)).trans x5
    have zn := (hb4.cell (p := ⟨b, off + k * 2, none⟩) (blt_of_cell y0)).trans y0
    have z0 := (hb4.cell (p := ⟨w2.heap.size, 0, none⟩) hkl).trans k0
    have q5 := (HBX.out.cell (p := ⟨w.heap.size, 5, none⟩) (blt_of_cell x5)).trans x5
    have qn := (HBX.out.cell (p := ⟨b, off + k * 2, none⟩) (blt_of_cell y0)).trans y0
    have q0 := (HBX.out.cell (p := ⟨w2.heap.size, 0, none⟩) hkl).trans k0
    have q1 := (HBX.out.cell (p := ⟨w2.heap.size, 1, none⟩) hkl).trans k1
    have q2 := (HBX.out.cell (p := ⟨w2.heap.size, 2, none⟩) hkl).trans k2
    have qf := (HBX.out.frozen (p := ⟨w2.heap.size, 0, none⟩) hkl).trans hkf
    go_wp2_with fail
    refine wp_region_held_drew (S := fun w' => w'.cell? ⟨w.heap.size, 5, none⟩ = some (.slice (some ⟨b, off, none⟩) ni ci) ∧ w'.cell? ⟨b, off + k * 2, none⟩ = some (.string nm)) (by kernel_rfl) ?_ (fun hHeld => ?_)
    ·exact ⟨z5, zn⟩
    refine wpAnyH_take (i := 0) (oi := _) (v := .pointer (some ⟨w2.heap.size, 0, none⟩)) rfl (by kernel_rfl) (by kernel_rfl) (by kernel_rfl) (fun _ _ _ h => h) (Or.inl ⟨by rfl, fun w hSw => ?_⟩) (by assumption) ?_
    ·((try dsimp only at hSw); go_simp; try with_reducible rfl)
    try simp only [Act.put, List.setIfInBounds_toArray, List.set_cons_zero, List.set_cons_succ]
    refine wpAnyH_take (i := 2) (oi := _) (v := .pointer (some ⟨w.heap.size, 5, none⟩)) rfl (by kernel_rfl) (by kernel_rfl) (by kernel_rfl) (fun _ _ _ h => h) (Or.inl ⟨by rfl, fun w hSw => ?_⟩) (by assumption) ?_
    ·((try dsimp only at hSw); go_simp; try with_reducible rfl)
    try simp only [Act.put, List.setIfInBounds_toArray, List.set_cons_zero, List.set_cons_succ]
    refine wpAnyH_take (i := 3) (oi := _) (v := .slice (some ⟨b, off, none⟩) ni ci) rfl (by kernel_rfl) (by kernel_rfl) (by kernel_rfl) (fun _ _ _ h => h) (Or.inl ⟨by rfl, fun w hSw => ?_⟩) (by assumption) ?_
    ·((try dsimp only at hSw); go_simp; try with_reducible rfl)
    try simp only [Act.put, List.setIfInBounds_toArray, List.set_cons_zero, List.set_cons_succ]
    refine wpAnyH_take (i := 4) (oi := _) (v := .int .i64 k) rfl (by kernel_rfl) (by kernel_rfl) (by kernel_rfl) (fun _ _ _ h => h) (Or.inl ⟨by rfl, fun w hSw => ?_⟩) (by assumption) ?_
    ·((try dsimp only at hSw); go_simp; try with_reducible rfl)
    try simp only [Act.put, List.setIfInBounds_toArray, List.set_cons_zero, List.set_cons_succ]
    refine wpAnyH_take (i := 5) (oi := _) (v := .pointer (some ⟨b, off + k * 2, none⟩)) rfl (by kernel_rfl) (by kernel_rfl) (by kernel_rfl) (fun _ _ _ h => h) (Or.inl ⟨by rfl, fun w hSw => ?_⟩) (by assumption) ?_
    ·((try dsimp only at hSw); go_simp; try with_reducible rfl)
    try simp only [Act.put, List.setIfInBounds_toArray, List.set_cons_zero, List.set_cons_succ]
    refine wpAnyH_take (i := 6) (oi := _) (v := .pointer (some ⟨b, off + k * 2, none⟩)) rfl (by kernel_rfl) (by kernel_rfl) (by kernel_rfl) (fun _ _ _ h => h) (Or.inl ⟨by rfl, fun w hSw => ?_⟩) (by assumption) ?_
    ·((try dsimp only at hSw); go_simp; try with_reducible rfl)
    try simp only [Act.put, List.setIfInBounds_toArray, List.set_cons_zero, List.set_cons_succ]
    refine wpAnyH_take (i := 7) (oi := _) (v := .string nm) rfl (by kernel_rfl) (by kernel_rfl) (by kernel_rfl) (fun _ _ _ h => h) (Or.inl ⟨by rfl, fun w hSw => ?_⟩) (by assumption) ?_
    ·((try dsimp only at hSw); go_simp; try with_reducible rfl)
    try simp only [Act.put, List.setIfInBounds_toArray, List.set_cons_zero, List.set_cons_succ]
    refine wpAnyH_take (i := 8) (oi := _) (v := .agg #[.string nm, .int .i64 0]) rfl (by kernel_rfl) (by kernel_rfl) (by kernel_rfl) (fun _ _ _ h => h) (Or.inl ⟨by rfl, fun w hSw => ?_⟩) (by assumption) ?_
    ·((try dsimp only at hSw); go_simp; try with_reducible rfl)
    try simp only [Act.put, List.setIfInBounds_toArray, List.set_cons_zero, List.set_cons_succ]
    refine wpAnyH_ready (rs := [1, 9]) (by kernel_rfl) (by simp) ?_
    refine AllReadyH.cons rfl (fun K hK => ?_) (AllReadyH.cons rfl (fun K hK => ?_) AllReadyH.nil)
    ·go_simp
     refine hK.out _ _ ⟨z5, zn⟩ (fun hHeld => ?_)
     clear hK K
     try simp only [Act.put, List.setIfInBounds_toArray, List.set_cons_zero, List.set_cons_succ]
     refine wpAnyH_ready (rs := [9]) (by kernel_rfl) (by simp) ?_
     refine AllReadyH.cons rfl (fun K hK => ?_) AllReadyH.nil
     go_simp
     refine hK.out _ _ ⟨q5, qn⟩ (fun hHeld => ?_)
     clear hK K
     try simp only [Act.put, List.setIfInBounds_toArray, List.set_cons_zero, List.set_cons_succ]
     refine wpAnyH_ready (rs := [10]) (by kernel_rfl) (by simp) ?_
     refine AllReadyH.cons rfl (fun K hK => ?_) AllReadyH.nil
     refine step_app_ams _ rfl (.tmp 50) (.tmp 58) rfl (w2.heap.size + 1) u (inAms p.ins (fun _ => 0) k) (by simp [Act.eval]) HG5.out w4.heap.size 0 1 1 [⟨nm, 0⟩] (by simp [Act.eval]) HAB.out rfl (by rw [inAms_len]; omega) HS5.out ?_
     intro v6 w6 hg6 hr6 hb6
     obtain ⟨xa6, ca6, hv6, -⟩ := hg6.slice
     obtain ⟨n6, hn6⟩ : ∃ n6, (inAms p.ins (fun _ => 0) k ++ [(⟨nm, 0⟩ : Am)]).length = n6 := ⟨_, rfl⟩
     rw [hn6] at hv6
     subst hv6
     have t5 := (hb6.cell (p := ⟨w.heap.size, 5, none⟩) (by show w.heap.size < w2.heap.size + 1; omega)).trans q5
     have tn := (hb6.cell (p := ⟨b, off + k * 2, none⟩) (by show b < w2.heap.size + 1; omega)).trans qn
     have t0 := (hb6.cell (p := ⟨w2.heap.size, 0, none⟩) (by show w2.heap.size < w2.heap.size + 1; omega)).trans q0
     have t1 := (hb6.cell (p := ⟨w2.heap.size, 1, none⟩) (by show w2.heap.size < w2.heap.size + 1; omega)).trans q1
     have t2 := (hb6.cell (p := ⟨w2.heap.size, 2, none⟩) (by show w2.heap.size < w2.heap.size + 1; omega)).trans q2
     have tf := (hb6.frozen (p := ⟨w2.heap.size, 0, none⟩) (by show w2.heap.size < w2.heap.size + 1; omega)).trans qf
     have s5 : (w6.setCell ⟨w2.heap.size, 0, none⟩ (.slice xa6 n6 ca6)).cell? ⟨w.heap.size, 5, none⟩ = some (.slice (some ⟨b, off, none⟩) ni ci) := (World.cell?_setCell_far w6 ⟨w2.heap.size, 0, none⟩ ⟨w.heap.size, 5, none⟩ _ (by show w2.heap.size ≠ w.heap.size; omega)).trans t5
     have sn : (w6.setCell ⟨w2.heap.size, 0, none⟩ (.slice xa6 n6 ca6)).cell? ⟨b, off + k * 2, none⟩ = some (.string nm) := (World.cell?_setCell_far w6 ⟨w2.heap.size, 0, none⟩ ⟨b, off + k * 2, none⟩ _ (by show w2.heap.size ≠ b; omega)).trans tn
     have hs6 : w2.heap.size + 1 ≤ w6.heap.size := Nat.le_trans HS5.out hb6.size
     have HBS : Hid (Below w2.heap.size wr (w6.setCell ⟨w2.heap.size, 0, none⟩ (.slice xa6 n6 ca6))) := (Below.trans (B := w2.heap.size) ((kbelow_dN HBX.out 1).mono (by omega)) (hb6.mono (by omega))).setCell (p := ⟨w2.heap.size, 0, none⟩) (Nat.le_refl _) _
     have HK6 : Hid (KAt (w6.setCell ⟨w2.heap.size, 0, none⟩ (.slice xa6 n6 ca6)) w2.heap.size (.slice xa6 n6 ca6) (.slice at' nt ct) (.slice none 0 0)) := ⟨by rw [World.size_setCell]; omega, World.cell?_setCell_same w6 _ _ t0, (World.cell?_setCell_other w6 _ _ _ (by simp)).trans t1, (World.cell?_setCell_other w6 _ _ _ (by simp)).trans t2⟩
     have HF6 : Hid ((w6.setCell ⟨w2.heap.size, 0, none⟩ (.slice xa6 n6 ca6)).frozen? ⟨w2.heap.size, 0, none⟩ = false) := (World.frozen?_setCell ..).trans tf
     have HG6 : Hid (GrowA (w6.setCell ⟨w2.heap.size, 0, none⟩ (.slice xa6 n6 ca6)) (w2.heap.size + 1) (.slice xa6 n6 ca6) (inAms p.ins (fun _ => 0) k ++ [⟨nm, 0⟩])) := ownsRow_setCell_below hg6 (by show w2.heap.size < w2.heap.size + 1; omega) _
     have HS6 : Hid (w2.heap.size + 1 ≤ (w6.setCell ⟨w2.heap.size, 0, none⟩ (.slice xa6 n6 ca6)).heap.size) := by unfold Hid; rw [World.size_setCell]; exact hs6
     clear hg6 hr6 hb6 hn6 hs6 t1 t2
     refine hK.out _ _ ⟨t5, tn⟩ (fun hHeld => ?_)
     clear hK K
     try simp only [Act.put, List.setIfInBounds_toArray, List.set_cons_zero, List.set_cons_succ]
     refine wpAnyH_take (i := 11) (oi := _) (v := .pointer (some ⟨w2.heap.size, 0, none⟩)) rfl (by kernel_rfl) (by kernel_rfl) (by kernel_rfl) (fun _ _ _ h => h) (Or.inl ⟨by rfl, fun w hSw => ?_⟩) (by assumption) ?_
     ·((try dsimp only at hSw); go_simp; try with_reducible rfl)
     try simp only [Act.put, List.setIfInBounds_toArray, List.set_cons_zero, List.set_cons_succ]
     refine wpAnyH_ready (rs := [12]) (by kernel_rfl) (by simp) ?_
     refine AllReadyH.cons rfl (fun K hK => ?_) AllReadyH.nil
     go_simp
     refine hK.out _ _ ⟨s5, sn⟩ (fun hHeld => ?_)
     clear hK K
     refine wpAnyH_done (by kernel_rfl) ?_ _
     go_wp2_with fail
     go_roundw
     case rel => exact ⟨k + 1, _, by omega, by go_num, by rw [hisE, if_pos HZ0.out, HRS.out], HK6.out, HF6.out, by rw [inAms, HNM.out]; exact HG6.out, HP.out.below HBS.out hwp, HB.out.trans HBS.out, HS6.out⟩
     case measure => simp [intOf]; omega
    ·go_simp
     refine hK.out _ _ ⟨q5, qn⟩ (fun hHeld => ?_)
     clear hK K
     try simp only [Act.put, List.setIfInBounds_toArray, List.set_cons_zero, List.set_cons_succ]
     refine wpAnyH_ready (rs := [1]) (by kernel_rfl) (by simp) ?_
     refine AllReadyH.cons rfl (fun K hK => ?_) AllReadyH.nil
     go_simp
     refine hK.out _ _ ⟨q5, qn⟩ (fun hHeld => ?_)
     clear hK K
     try simp only [Act.put, List.setIfInBounds_toArray, List.set_cons_zero, List.set_cons_succ]
     refine wpAnyH_ready (rs := [10]) (by kernel_rfl) (by simp) ?_
     refine AllReadyH.cons rfl (fun K hK => ?_) AllReadyH.nil
     refine step_app_ams _ rfl (.tmp 50) (.tmp 58) rfl (w2.heap.size + 1) u (inAms p.ins (fun _ => 0) k) (by simp [Act.eval]) HG5.out w4.heap.size 0 1 1 [⟨nm, 0⟩] (by simp [Act.eval]) HAB.out rfl (by rw [inAms_len]; omega) HS5.out ?_
     intro v6 w6 hg6 hr6 hb6
     obtain ⟨xa6, ca6, hv6, -⟩ := hg6.slice
     obtain ⟨n6, hn6⟩ : ∃ n6, (inAms p.ins (fun _ => 0) k ++ [(⟨nm, 0⟩ : Am)]).length = n6 := ⟨_, rfl⟩
     rw [hn6] at hv6
     subst hv6
     have t5 := (hb6.cell (p := ⟨w.heap.size, 5, none⟩) (by show w.heap.size < w2.heap.size + 1; omega)).trans q5
     have tn := (hb6.cell (p := ⟨b, off + k * 2, none⟩) (by show b < w2.heap.size + 1; omega)).trans qn
     have t0 := (hb6.cell (p := ⟨w2.heap.size, 0, none⟩) (by show w2.heap.size < w2.heap.size + 1; omega)).trans q0
     have t1 := (hb6.cell (p := ⟨w2.heap.size, 1, none⟩) (by show w2.heap.size < w2.heap.size + 1; omega)).trans q1
     have t2 := (hb6.cell (p := ⟨w2.heap.size, 2, none⟩) (by show w2.heap.size < w2.heap.size + 1; omega)).trans q2
     have tf := (hb6.frozen (p := ⟨w2.heap.size, 0, none⟩) (by show w2.heap.size < w2.heap.size + 1; omega)).trans qf
     have s5 : (w6.setCell ⟨w2.heap.size, 0, none⟩ (.slice xa6 n6 ca6)).cell? ⟨w.heap.size, 5, none⟩ = some (.slice (some ⟨b, off, none⟩) ni ci) := (World.cell?_setCell_far w6 ⟨w2.heap.size, 0, none⟩ ⟨w.heap.size, 5, none⟩ _ (by show w2.heap.size ≠ w.heap.size; omega)).trans t5
     have sn : (w6.setCell ⟨w2.heap.size, 0, none⟩ (.slice xa6 n6 ca6)).cell? ⟨b, off + k * 2, none⟩ = some (.string nm) := (World.cell?_setCell_far w6 ⟨w2.heap.size, 0, none⟩ ⟨b, off + k * 2, none⟩ _ (by show w2.heap.size ≠ b; omega)).trans tn
     have hs6 : w2.heap.size + 1 ≤ w6.heap.size := Nat.le_trans HS5.out hb6.size
     have HBS : Hid (Below w2.heap.size wr (w6.setCell ⟨w2.heap.size, 0, none⟩ (.slice xa6 n6 ca6))) := (Below.trans (B := w2.heap.size) ((kbelow_dN HBX.out 1).mono (by omega)) (hb6.mono (by omega))).setCell (p := ⟨w2.heap.size, 0, none⟩) (Nat.le_refl _) _
     have HK6 : Hid (KAt (w6.setCell ⟨w2.heap.size, 0, none⟩ (.slice xa6 n6 ca6)) w2.heap.size (.slice xa6 n6 ca6) (.slice at' nt ct) (.slice none 0 0)) := ⟨by rw [World.size_setCell]; omega, World.cell?_setCell_same w6 _ _ t0, (World.cell?_setCell_other w6 _ _ _ (by simp)).trans t1, (World.cell?_setCell_other w6 _ _ _ (by simp)).trans t2⟩
     have HF6 : Hid ((w6.setCell ⟨w2.heap.size, 0, none⟩ (.slice xa6 n6 ca6)).frozen? ⟨w2.heap.size, 0, none⟩ = false) := (World.frozen?_setCell ..).trans tf
     have HG6 : Hid (GrowA (w6.setCell ⟨w2.heap.size, 0, none⟩ (.slice xa6 n6 ca6)) (w2.heap.size + 1) (.slice xa6 n6 ca6) (inAms p.ins (fun _ => 0) k ++ [⟨nm, 0⟩])) := ownsRow_setCell_below hg6 (by show w2.heap.size < w2.heap.size + 1; omega) _
     have HS6 : Hid (w2.heap.size + 1 ≤ (w6.setCell ⟨w2.heap.size, 0, none⟩ (.slice xa6 n6 ca6)).heap.size) := by unfold Hid; rw [World.size_setCell]; exact hs6
     clear hg6 hr6 hb6 hn6 hs6 t1 t2
     refine hK.out _ _ ⟨t5, tn⟩ (fun hHeld => ?_)
     clear hK K
     try simp only [Act.put, List.setIfInBounds_toArray, List.set_cons_zero, List.set_cons_succ]
     refine wpAnyH_take (i := 11) (oi := _) (v := .pointer (some ⟨w2.heap.size, 0, none⟩)) rfl (by kernel_rfl) (by kernel_rfl) (by kernel_rfl) (fun _ _ _ h => h) (Or.inl ⟨by rfl, fun w hSw => ?_⟩) (by assumption) ?_
     ·((try dsimp only at hSw); go_simp; try with_reducible rfl)
     try simp only [Act.put, List.setIfInBounds_toArray, List.set_cons_zero, List.set_cons_succ]
     refine wpAnyH_ready (rs := [12]) (by kernel_rfl) (by simp) ?_
     refine AllReadyH.cons rfl (fun K hK => ?_) AllReadyH.nil
     go_simp
     refine hK.out _ _ ⟨s5, sn⟩ (fun hHeld => ?_)
     clear hK K
     refine wpAnyH_done (by kernel_rfl) ?_ _
     go_wp2_with fail
     go_roundw
     case rel => exact ⟨k + 1, _, by omega, by go_num, by rw [hisE, if_pos HZ0.out, HRS.out], HK6.out, HF6.out, by rw [inAms, HNM.out]; exact HG6.out, HP.out.below HBS.out hwp, HB.out.trans HBS.out, HS6.out⟩
     case measure => simp [intOf]; omega
   ·have hzB : decide (hisE p.ins k = 0) = false := decide_eq_false hz0
    have hzC : (hisE p.ins k == 0) = false := by simp [hz0]
    have HE : Hid (hisE p.ins p.ins.length = hisE p.ins k) := Lib.hid (by rw [H3.out]; exact hisE_stay hz0 ni hk)
    have HNE := Lib.hid hz0
    go_wp2_with fail
    go_ret
    exact ⟨_, rfl, .inr (.inr (.inr (.inl ⟨HZ.out, HL.out, by rw [H1.out]; exact hnl, by rw [H3.out]; exact hni, by rw [HE.out]; exact HNE.out, HE.out.symm⟩))), HBW.out⟩
  ·obtain rfl : k = ni := by omega
   have hltB : decide ((k : Int) < (k : Int)) = false := decide_eq_false (by omega)
   by_cases hz0 : hisE p.ins k = 0
   ·have HZ0 := Lib.hid hz0
    rw [hz0]
    obtain ⟨xa, ca, rfl, hca⟩ := HG.out.slice
    have HCA := Lib.hid hca
    have HLK : Hid ((inAms p.ins (fun _ => 0) k).length = k) := inAms_len _ _ _
    rw [HLK.out] at k0
    clear hca hz0
    go_wp2_with fail
    refine (lines_ref al nl cl p.lns xa at' none k nt 0 ca ct 0 (knP p) _ (HC.out.l.below HBW.out) H1.out (by rw [← H1.out]; exact HC.out.ml) ⟨by unfold knP; rw [H3.out]; exact HCA.out, HC.out.t.below HBW.out, .inl rfl, inAms_fit HC.out.i _ _ (Nat.le_refl _), fun j hj => absurd hj (Nat.not_lt_zero _), by unfold knP; rw [inAms_len]; exact HC.out.mi, HC.out.mt, Nat.zero_le _⟩ (by unfold knP; rw [inAms_len]; exact H3.out) H2.out rfl).mono ?_
    rintro e w7 ⟨i7, e7, rfl, hbi, hb7⟩
    have HB7 := Lib.hid (HBW.out.trans (hb7.mono HBW.out.size))
    have HBI := Lib.hid hbi
    have HH3 : Hid (hisE p.ins p.ins.length = 0) := Lib.hid (by rw [H3.out]; exact HZ0.out)
    clear hb7 hbi x0 x1 x2 x3 x4 x5
    go_wp2_with fail
    go_ret
    exact ⟨_, rfl, .inr (.inr (.inr (.inr ⟨HZ.out, HL.out, by rw [H1.out]; exact hnl, by rw [H3.out]; exact hni, HH3.out, i7, HBI.out⟩))), HB7.out⟩
   ·have hzB : decide (hisE p.ins k = 0) = false := decide_eq_false hz0
    have hzC : (hisE p.ins k == 0) = false := by simp [hz0]
    have HNE := Lib.hid hz0
    have HE : Hid (hisE p.ins p.ins.length = hisE p.ins k) := Lib.hid (by rw [H3.out])
    clear hz0
    go_wp2_with fail
    go_ret
    exact ⟨_, rfl, .inr (.inr (.inr (.inl ⟨HZ.out, HL.out, by rw [H1.out]; exact hnl, by rw [H3.out]; exact hni, by rw [HE.out]; exact HNE.out, HE.out.symm⟩))), HBW.out⟩
end Go.Proofs.YtkalfdjmklakdaaGreatDoor
namespace Go.Proofs.YtkalfdjmklakdaaGreatDoor
open Go.RowKit Go.Sort
theorem checkPlan_ref (p : Pl) (al at' ai : Option Addr) (nl nt ni cl ct ci : Nat) (w : World) (hc : CameP w al at' ai p) (h1 : p.lns.length = nl) (h2 : p.tbs.length = nt) (h3 : p.ins.length = ni) :
 Calls Tryz.prog 42 #[.agg #[.int .i64 p.K, .int .i64 p.A, .int .i64 p.L, .slice al nl cl, .slice at' nt ct, .slice ai ni ci]] w fun e w' => PlanRet w p e w' := by
 have m1 : nl ≤ 9223372036854775807 := by have := hc.ml; rw [h1] at this; unfold maxLen at this; omega
 have m3 : ni ≤ 9223372036854775807 := by have := hc.mi; rw [h3] at this; unfold maxLen at this; omega
 by_cases hz : Cal.schedE p.K p.A p.L = 0
 ·by_cases hl : linesE p.lns = 0
  ·by_cases hm : 30 < nl ∨ 30 < ni
   ·exact checkPlan_many p al at' ai nl nt ni cl ct ci w hc h1 h3 hz hl hm m3 m1
   ·exact checkPlan_ins p al at' ai nl nt ni cl ct ci w hc h1 h2 h3 hz hl (by omega) (by omega)
  ·exact checkPlan_lines p al at' ai nl nt ni cl ct ci w hc h1 hz hl m3
 ·exact checkPlan_sched p al at' ai nl nt ni cl ct ci w hz m3
end Go.Proofs.YtkalfdjmklakdaaGreatDoor
namespace Go.Proofs.YtkalfdjmklakdaaGreatDoor
open Go.RowKit
theorem pcells_sc : Tryz.prog.cellsOf 23 = 3 := by kernel_rfl
theorem pcells_ls : Tryz.prog.cellsOf 24 = 1 := by kernel_rfl
theorem pcells_ts : Tryz.prog.cellsOf 25 = 1 := by kernel_rfl
theorem pcells_is : Tryz.prog.cellsOf 55 = 1 := by kernel_rfl
theorem pcells_pl : Tryz.prog.cellsOf 78 = 6 := by kernel_rfl
theorem pcells_in : Tryz.prog.cellsOf 3 = 1 := by kernel_rfl
set_option maxRecDepth 100000 in
theorem open_plan {H : Type} {enc : TypeId × Value → H} {W : World} {fuel : Nat} {cs : List Value} {x : DataW H × List MemPlace} (hl : cs.length = 6)
 (h : DataW.trod enc Tryz.prog W 0 (fun _ => true) true fuel 78 cs = some x) :
 ∃ (p : Pl) (al : Option Addr) (nl cl : Nat) (at' : Option Addr) (nt ct : Nat) (ai : Option Addr) (ni ci : Nat), cs = [.int .i64 p.K, .int .i64 p.A, .int .i64 p.L, .slice al nl cl, .slice at' nt ct, .slice ai ni ci] ∧ CameP W al at' ai p ∧ p.lns.length = nl ∧ p.tbs.length = nt ∧ p.ins.length = ni := by
 obtain ⟨xs, k, hk, hxy, _, hxl, hf⟩ := DataW.trod_struct Tryz.underlying78 h
 match xs, hxl, cs, hl with
 | [y0, y1, y2, y3], _, [v0, v1, v2, v3, v4, v5], _ =>
   have g0 := hf 0 _ rfl
   have g1 := hf 1 _ rfl
   have g2 := hf 2 _ rfl
   have g3 := hf 3 _ rfl
   simp [pcells_sc, pcells_ls, pcells_ts, pcells_is] at g0 g1 g2 g3
   obtain ⟨zs, k', _, _, _, hzl, hg⟩ := DataW.trod_struct Tryz.underlying23 g0
   match zs, hzl with
   | [z0, z1, z2], _ =>
     have e0 := hg 0 _ rfl
     have e1 := hg 1 _ rfl
     have e2 := hg 2 _ rfl
     simp [pcells_in] at e0 e1 e2
     obtain ⟨K, q0, _, _⟩ := DataW.trod_int Tryz.underlying3 e0
     obtain ⟨A, q1, _, _⟩ := DataW.trod_int Tryz.underlying3 e1
     obtain ⟨L, q2, _, _⟩ := DataW.trod_int Tryz.underlying3 e2
     simp at q0 q1 q2
     subst q0 q1 q2
     obtain ⟨al, nl, cl, ll, rfl, c1, n1, m1⟩ := open_lines g1
     obtain ⟨at', nt, ct, lt, rfl, c2, n2, m2⟩ := open_tbs g2
     obtain ⟨ai, ni, ci, li, rfl, c3, n3, m3⟩ := open_ins g3
     exact ⟨⟨K, A, L, ll, lt, li⟩, al, nl, cl, at', nt, ct, ai, ni, ci, rfl, ⟨c1, c2, c3, by simp only; omega, by simp only; omega, by simp only; omega⟩, n1, n2, n3⟩
end Go.Proofs.YtkalfdjmklakdaaGreatDoor
