/-
  Promise N1: plans: inputs in memory, how they are opened; what is wrong with a plan.
  Promise N1: lists of amounts of the call's own, that others are appended to; a plan in its box.
  Promise N1: the walk of retro.Check.
  Promise N2: the reckoner in its box; what inputs are at a day.
  Promise N2: the reckoner goes to a day: where a year begins the sums begin anew.
  The library's bodies that this seat's walks lean on, laid at its translation.
  Promise N2: amounts sorted by their names: the library's sort.
  Promise N2: what lines came to in a year: the walk of years up to its sort.
-/
import Derived.Test.YtonceehdmnkffaaGreatDoorJE
import Derived.Test.YtonceehdmnkffaaGreatDoorJI
import Derived.Test.YtonceehdmnkffaaGreatDoorJL
import Derived.Lib.OwnBridge
import Derived.Sort.Grow
import Derived.Maps.AppendAt
import Derived.Deep.RegionLaw
import Derived.Laws.IdiomCopy
import Derived.Laws.MakeOwn
import Derived.OwnWalk
import Derived.Lib.Walk
import Derived.Lib.SliceRun
import Derived.Test.YtonceehdmnkffaaGreatDoorJH
import Derived.Test.YtonceehdmnkffaaGreatDoorJK
import Derived.Deep.RegionHeldLaw
import Derived.BigQuiet
import Derived.Shelf.SlGeneric
import Derived.Shelf.SlSortCmp.WholeK
import Derived.Shelf.SlSortCmp.NoneTotal
import Derived.Test.YtonceehdmnkffaaGreatDoorProg
namespace Go.Proofs.YtonceehdmnkffaaGreatDoor
open Go.RowKit

/-- An input: its name and its history. -/
structure In where
  name : ByteArray
  rows : List Hst.Rw
def inth (l : List In) (j : Nat) : In := l.getD j ⟨⟨#[]⟩, []⟩
def InIs (w : World) (b o : Nat) (r : In) : Prop := ∃ (a : Option Addr) (c : Nat), w.cell? ⟨b, o, none⟩ = some (.string r.name) ∧ w.cell? ⟨b, o + 1, none⟩ = some (.slice a r.rows.length c) ∧ Hst.CameR w a r.rows ∧ r.name.size ≤ maxLen ∧ r.rows.length ≤ maxLen
theorem InIs.below {w w' : World} {b o : Nat} {r : In} (h : InIs w b o r) (hb : Below w.heap.size w w') (hB : b < w.heap.size) : InIs w' b o r := by
  obtain ⟨a, c, h1, h2, h3, h4⟩ := h
  exact ⟨a, c, (hb.cell (p := ⟨b, o, none⟩) hB).trans h1, (hb.cell (p := ⟨b, o + 1, none⟩) hB).trans h2, h3.below hb, h4⟩
/-- A slice of inputs that came in. -/
def CameI (w : World) (a : Option Addr) (l : List In) : Prop := l.length = 0 ∨ ∃ b off, a = some ⟨b, off, none⟩ ∧ b < w.heap.size ∧ ∀ j, j < l.length → InIs w b (off + j * 2) (inth l j)
theorem CameI.below {w w' : World} {a : Option Addr} {l : List In} (h : CameI w a l) (hb : Below w.heap.size w w') : CameI w' a l := by
  rcases h with h | ⟨b, off, rfl, h1, h2⟩
  · exact .inl h
  · exact .inr ⟨b, off, rfl, Nat.lt_of_lt_of_le h1 hb.size, fun j hj => (h2 j hj).below hb h1⟩
theorem CameI.open {w : World} {a : Option Addr} {l : List In} (h : CameI w a l) {n : Nat} (hn : l.length = n) (h0 : 0 < n) : ∃ b off, a = some ⟨b, off, none⟩ ∧ ∀ w', Below w.heap.size w w' → ∀ k, k < n → InIs w' b (off + k * 2) (inth l k) := by
  rcases h with h | ⟨b, off, rfl, h1, h2⟩
  · omega
  · exact ⟨b, off, rfl, fun w' hb k hk => (h2 k (by omega)).below hb h1⟩
theorem icells_in : Tryz.prog.cellsOf 47 = 2 := by kernel_rfl
theorem icells_rs : Tryz.prog.cellsOf 45 = 1 := by kernel_rfl
set_option maxRecDepth 100000 in
theorem open_ins {H : Type} {enc : TypeId × Value → H} {W : World} {fuel : Nat} {v : Value} {x : DataW H × List MemPlace}
    (h : DataW.trod enc Tryz.prog W 0 (fun _ => true) true fuel 26 [v] = some x) :
    ∃ (a : Option Addr) (len cap : Nat) (l : List In), v = .slice a len cap ∧ CameI W a l ∧ l.length = len ∧ len ≤ maxLen := by
  rcases Deep.open_slice Tryz.underlying26 h with ⟨hcs, _⟩ | ⟨a', len, cap, m, n, D, Pl, hcs, hb, hl, hm, hmm, _, hx⟩
  · simp at hcs
    exact ⟨none, 0, 0, [], hcs, .inl rfl, rfl, Nat.zero_le _⟩
  simp at hcs
  subst hcs
  have hmc : m = cap := by rw [hmm]; simp
  subst hmc
  have each : ∀ i, i < m → ∃ r : In, ∃ (a : Option Addr) (c : Nat), W.cell? (a'.add (i * 2)) = some (.string r.name) ∧ W.cell? (a'.add (i * 2 + 1)) = some (.slice a r.rows.length c) ∧ Hst.CameR W a r.rows ∧ r.name.size ≤ maxLen ∧ r.rows.length ≤ maxLen := by
    intro i hi
    obtain ⟨cs', h1, h2⟩ := hx i hi
    rw [icells_in] at h1
    obtain ⟨_, hlen, hcell⟩ := World.cells?_some h1
    obtain ⟨xs, k, hk, hxy, _, hxl, hf⟩ := DataW.trod_struct Tryz.underlying47 h2
    match xs, hxl, cs', hlen with
    | [y0, y1], _, [v0, v1], _ =>
      have g0 := hf 0 _ rfl
      have g1 := hf 1 _ rfl
      simp [kcells_st, icells_rs] at g0 g1
      obtain ⟨s0, q0, _, hs⟩ := DataW.trod_string Tryz.underlying9 g0
      obtain ⟨a, ln, c, rfl⟩ : ∃ (a : Option Addr) (ln c : Nat), v1 = .slice a ln c := by
        rcases Deep.open_slice Tryz.underlying45 g1 with ⟨q, _⟩ | ⟨a2, l2, c2, _, _, _, _, q, _⟩
        · simp at q; exact ⟨_, _, _, q⟩
        · simp at q; exact ⟨_, _, _, q⟩
      obtain ⟨l, hc, hn, hm, _⟩ := Hst.open_rows g1
      simp at q0
      subst q0
      subst hn
      have e0 := hcell 0 (by omega)
      have e1 := hcell 1 (by omega)
      rw [Deep.add_add] at e0 e1
      exact ⟨⟨s0, l⟩, a, c, by simpa using e0, by simpa using e1, hc, hs, hm⟩
  haveI : Inhabited In := ⟨⟨⟨#[]⟩, []⟩⟩
  obtain ⟨q, hq⟩ := Deep.choose_lt each
  have hnth : ∀ j, j < len → inth ((List.range len).map q) j = q j := by
    intro j hj
    simp [inth, List.getD_eq_getElem?_getD, hj]
  refine ⟨some a', len, m, (List.range len).map q, rfl, ?_, by simp, by omega⟩
  by_cases h0 : len = 0
  · exact .inl (by simp [h0])
  · obtain ⟨b, off, spot⟩ := a'
    obtain ⟨_, _, hc, _⟩ := hq 0 (by omega)
    have hspot : spot = none := by simpa [Addr.add] using World.cell?_spot hc
    subst hspot
    refine .inr ⟨b, off, rfl, blt_of_cell hc, fun j hj => ?_⟩
    have hj' : j < len := by simpa using hj
    obtain ⟨aj, cj, h1, h2, h3⟩ := hq j (by omega)
    simp only [Addr.add_lit] at h1 h2
    rw [hnth j hj']
    exact ⟨aj, cj, by simpa [Nat.add_assoc] using h1, by simpa [Nat.add_assoc] using h2, h3⟩
/-- A plan. -/
structure Pl where
  K : Int
  A : Int
  L : Int
  lns : List Ln
  tbs : List Tb
  ins : List In
/-- A plan's lists, where they lie. -/
structure CameP (w : World) (al at' ai : Option Addr) (p : Pl) : Prop where
  l : CameL w al p.lns
  t : CameT w at' p.tbs
  i : CameI w ai p.ins
  ml : p.lns.length ≤ maxLen
  mt : p.tbs.length ≤ maxLen
  mi : p.ins.length ≤ maxLen
theorem CameP.below {w w' : World} {al at' ai : Option Addr} {p : Pl} (h : CameP w al at' ai p) (hb : Below w.heap.size w w') : CameP w' al at' ai p :=
  ⟨h.l.below hb, h.t.below hb, h.i.below hb, h.ml, h.mt, h.mi⟩
/-- What is wrong first with the first k histories. -/
def hisE (l : List In) : Nat → Int
  | 0 => 0
  | k + 1 => if hisE l k = 0 then Hst.histE (inth l k).rows else hisE l k
theorem hisE_ok {l : List In} : ∀ {k : Nat}, (∀ j, j < k → Hst.histE (inth l j).rows = 0) → hisE l k = 0
  | 0, _ => rfl
  | k + 1, h => by rw [hisE, if_pos (hisE_ok fun j hj => h j (by omega)), h k (by omega)]
theorem hisE_all {l : List In} : ∀ {k : Nat}, hisE l k = 0 → ∀ j, j < k → Hst.histE (inth l j).rows = 0
  | 0, _, j, hj => by omega
  | k + 1, h, j, hj => by
    rw [hisE] at h
    split at h
    · next h0 =>
      by_cases e : j = k
      · subst e; exact h
      · exact hisE_all h0 j (by omega)
    · next h0 => exact absurd h h0
theorem hisE_at {l : List In} {k : Nat} (h : ∀ j, j < k → Hst.histE (inth l j).rows = 0) (hk : Hst.histE (inth l k).rows ≠ 0) : ∀ n, k < n → hisE l n = Hst.histE (inth l k).rows
  | 0, hn => by omega
  | n + 1, hn => by
    by_cases e : n = k
    · subst e; rw [hisE, if_pos (hisE_ok h)]
    · rw [hisE, hisE_at h hk n (by omega), if_neg hk]
/-- The names of the first k inputs, as amounts of m. -/
def inAms (l : List In) (m : Nat → Int) : Nat → List Am
  | 0 => []
  | k + 1 => inAms l m k ++ [⟨(inth l k).name, m k⟩]
theorem inAms_len (l : List In) (m : Nat → Int) : ∀ k, (inAms l m k).length = k
  | 0 => rfl
  | k + 1 => by simp [inAms, inAms_len l m k]
theorem inAms_at (l : List In) (m : Nat → Int) : ∀ (k j : Nat), j < k → anth (inAms l m k) j = ⟨(inth l j).name, m j⟩
  | 0, j, h => by omega
  | k + 1, j, h => by
    by_cases e : j = k
    · subst e
      simp [anth, inAms, inAms_len]
    · have ih := inAms_at l m k j (by omega)
      rw [← ih]
      simp [anth, inAms, List.getElem?_append_left, inAms_len, show j < k by omega]
/-- What lines are bound by when a plan is checked. -/
def knP (p : Pl) : Kn := ⟨inAms p.ins (fun _ => 0) p.ins.length, p.tbs, []⟩
/-- What is wrong with a plan. -/
def PlanIs (p : Pl) (e : Int) : Prop :=
  (Cal.schedE p.K p.A p.L ≠ 0 ∧ e = Cal.schedE p.K p.A p.L) ∨
  (Cal.schedE p.K p.A p.L = 0 ∧ linesE p.lns ≠ 0 ∧ e = linesE p.lns) ∨
  (Cal.schedE p.K p.A p.L = 0 ∧ linesE p.lns = 0 ∧ (30 < p.lns.length ∨ 30 < p.ins.length) ∧ e = 2) ∨
  (Cal.schedE p.K p.A p.L = 0 ∧ linesE p.lns = 0 ∧ p.lns.length ≤ 30 ∧ p.ins.length ≤ 30 ∧ hisE p.ins p.ins.length ≠ 0 ∧ e = hisE p.ins p.ins.length) ∨
  (Cal.schedE p.K p.A p.L = 0 ∧ linesE p.lns = 0 ∧ p.lns.length ≤ 30 ∧ p.ins.length ≤ 30 ∧ hisE p.ins p.ins.length = 0 ∧ ∃ i, BindIs p.lns (knP p) i e)
end Go.Proofs.YtonceehdmnkffaaGreatDoor
namespace Go.Proofs.YtonceehdmnkffaaGreatDoor
open Go.RowKit Go.Sort

instance : Inhabited Am := ⟨⟨⟨#[]⟩, 0⟩⟩
def encA (x : Am) : List Value := [.string x.name, .int .i64 x.mon]
def cellsL : List Am → List Value
  | [] => []
  | r :: l => encA r ++ cellsL l
theorem cellsL_length : ∀ l : List Am, (cellsL l).length = l.length * 2
  | [] => rfl
  | r :: l => by
    rw [cellsL, List.length_append, cellsL_length l, List.length_cons]
    simp [encA]
    omega
theorem cellsL_append : ∀ l m : List Am, cellsL (l ++ m) = cellsL l ++ cellsL m
  | [], _ => rfl
  | r :: l, m => by rw [List.cons_append, cellsL, cellsL, cellsL_append l m, List.append_assoc]
theorem anth_cons (r : Am) (l : List Am) (k : Nat) : anth (r :: l) (k + 1) = anth l k := rfl
theorem anth_zero (r : Am) (l : List Am) : anth (r :: l) 0 = r := rfl
theorem cellsL_get : ∀ (l : List Am) (k c : Nat), k < l.length → c < 2 → (cellsL l)[k * 2 + c]? = (encA (anth l k))[c]?
  | [], k, c, hk, _ => absurd hk (by simp)
  | r :: l, 0, c, _, hc => by
    rw [cellsL, anth_zero, List.getElem?_append_left (by simp [encA]; omega), Nat.zero_mul, Nat.zero_add]
  | r :: l, k + 1, c, hk, hc => by
    rw [cellsL, anth_cons, List.getElem?_append_right (by simp [encA]; omega), ← cellsL_get l k c (by simpa using hk) hc]
    congr 1
    simp [encA]
    omega
theorem encA_one (x : Am) : ∀ v ∈ encA x, v.oneCell' = true := by
  intro v hv
  simp only [encA, List.mem_cons, List.not_mem_nil, or_false] at hv
  rcases hv with rfl | rfl <;> rfl
theorem cellsL_one : ∀ (l : List Am) (u : Value), u ∈ cellsL l → u.oneCell' = true
  | [], u, h => by simp [cellsL] at h
  | r :: l, u, h => by
    rw [cellsL, List.mem_append] at h
    rcases h with h | h
    · exact encA_one r u h
    · exact cellsL_one l u h
theorem holds_of_aat {w : World} {b off : Nat} {l : List Am} (h : AAt w b off l) : ∀ j u, (cellsL l)[j]? = some u → w.cell? ⟨b, off + j, none⟩ = some u := by
  intro j u hu
  have hj : j < l.length * 2 := by
    rw [← cellsL_length]
    by_cases h' : j < (cellsL l).length
    · exact h'
    · rw [List.getElem?_eq_none (by omega)] at hu; cases hu
  have hk : j / 2 < l.length := by omega
  obtain ⟨h0, h1⟩ := h.2 (j / 2) hk
  have hje : j / 2 * 2 + j % 2 = j := by omega
  have hg := cellsL_get l (j / 2) (j % 2) hk (by omega)
  rw [hje, hu] at hg
  have hc : j % 2 = 0 ∨ j % 2 = 1 := by omega
  rcases hc with hc | hc <;> rw [hc] at hg hje <;> simp only [encA, List.getElem?_cons_zero, List.getElem?_cons_succ, Option.some.injEq] at hg <;> subst hg
  · rw [show off + j = off + j / 2 * 2 from by omega]; exact h0
  · rw [show off + j = off + j / 2 * 2 + 1 from by omega]; exact h1
theorem info_am : (Tryz.prog.info? 72).map (fun i => (i.zero, i.size, i.bytes)) = some (some (.agg #[.string ⟨#[]⟩, .int .i64 0]), 2, 24) := by kernel_rfl
/-- The slice v, nil or of the call's own from block B on, holds the amounts l. -/
def GrowA (w : World) (B : Nat) (v : Value) (l : List Am) : Prop := w.ownsRow B 72 2 v l.length (cellsL l)
theorem GrowA.nil (w : World) (B : Nat) : GrowA w B (.slice none 0 0) [] := World.ownsRow_nil _ _ _ _
theorem GrowA.alloc {w : World} {B : Nat} {v : Value} {l : List Am} (h : GrowA w B v l) (o : Obj) : GrowA (w.alloc o) B v l := World.ownsRow.alloc h o
theorem GrowA.lt {w : World} {B : Nat} {v : Value} {l : List Am} (h : GrowA w B v l) : ∀ k, v.ownBlock = some k → B ≤ k ∧ k < w.heap.size := World.ownsRow.lt h
theorem GrowA.kept {w w' : World} {B : Nat} {v : Value} {l : List Am} {row : Option Nat} (h : GrowA w B v l) (hg : w.grownBy w' row) (hr : ∀ r, row = some r → r < B) : GrowA w' B v l := by
  refine World.ownsRow.kept h hg ?_
  cases hv : v.ownBlock with
  | none => exact .inl rfl
  | some k =>
    refine .inr (fun e => ?_)
    have := hr k e.symm
    have := (h.lt k hv).1
    omega
theorem GrowA.below {w w' : World} {B : Nat} {v : Value} {l : List Am} (h : GrowA w B v l) (hb : Go.RowKit.Below w.heap.size w w') : GrowA w' B v l := by
  refine World.ownsRow.kept (row := none) h ⟨hb.os, hb.tape, hb.output, hb.size, fun k hk _ => hb.block k hk⟩ ?_
  cases v.ownBlock with
  | none => exact .inl rfl
  | some k => exact .inr (Option.some_ne_none k)
theorem GrowA.form {w : World} {B : Nat} {v : Value} {l : List Am} (h : GrowA w B v l) : (v = .slice none 0 0 ∧ l = []) ∨ ∃ g c, v = .slice (some ⟨g, 0, none⟩) l.length c ∧ B ≤ g ∧ AAt w g 0 l ∧ l.length ≤ c := by
  have hh := h
  rcases h.2 with ⟨h1, h2⟩ | ⟨g, c, cur, h1, h2, hgc, h4, _⟩
  · exact .inl ⟨h1, List.eq_nil_of_length_eq_zero h2⟩
  · subst h1
    have key : ∀ j, j < l.length → ∀ c, c < 2 → ∀ u, (encA (anth l j))[c]? = some u → w.cell? ⟨g, j * 2 + c, none⟩ = some u := fun j hj c hc u hu => by
      have := World.ownsRow.cells hh (g := g) rfl (j * 2 + c) u ((cellsL_get l j c hj hc).trans hu)
      rwa [Addr.add_lit, Nat.zero_add] at this
    refine .inr ⟨g, c, rfl, h2, ⟨(GrowA.lt hh g rfl).2, fun j hj => ?_⟩, h4⟩
    rw [Nat.zero_add]
    exact ⟨key j hj 0 (by omega) _ rfl, key j hj 1 (by omega) _ rfl⟩
theorem GrowA.slice {w : World} {B : Nat} {v : Value} {l : List Am} (h : GrowA w B v l) : ∃ x c, v = .slice x l.length c ∧ CameA w x l := by
  rcases h.form with ⟨h1, h2⟩ | ⟨g, c, h1, _, h3, _⟩
  · subst h2; exact ⟨none, 0, h1, .inl rfl⟩
  · exact ⟨_, c, h1, .inr ⟨g, 0, rfl, h3⟩⟩
theorem run_app_ams (w : World) (ty : TypeId) (B : Nat) (v : Value) (l : List Am) (hown : GrowA w B v l) (b off m c : Nat) (news : List Am) (hsrc : AAt w b off news) (hm : news.length = m)
    (hb : (l.length + m) * 24 ≤ 140737488355328) (hB : B ≤ w.heap.size) :
    ∃ v' w', (Builtin.append_ #[69, 69] ty #[v, .slice (some ⟨b, off, none⟩) m c]).run Tryz.prog w = .ok v' w' ∧ GrowA w' B v' (l ++ news) ∧ w.grownBy w' v.ownBlock ∧ Go.RowKit.Below B w w' := by
  obtain ⟨i0, hi, hz0, hz1, hz2⟩ := info_parts info_am
  have hnews : ∀ j u, (cellsL news)[j]? = some u → w.cell? ((⟨b, off, none⟩ : Addr).add j) = some u := by
    intro j u hu
    rw [Addr.add_lit]
    exact holds_of_aat hsrc j u hu
  obtain ⟨v', w', hr, h2, h3, _, h5⟩ := run_append_own_at (P := Tryz.prog) w B 69 ty 72 i0 _ 2 24 Tryz.underlying69 hi hz0 hz1 hz2 rfl (by decide) v l.length (cellsL l) hown ⟨b, off, none⟩ m c (cellsL news) (by rw [cellsL_length, hm]) hnews (cellsL_one news) (by unfold maxLen; omega) hb hB
  refine ⟨v', w', hr, ?_, h3, (Below.refl B w).grown h3 hB fun k hk => (GrowA.lt hown k hk).1⟩
  unfold GrowA
  rw [List.length_append, hm, cellsL_append]
  exact h2
theorem wpList_app_ams {ops : Array Oper} {rest : List Oper} {o : Oper} {a : Act} {Q : Exit → Act → World → Prop} (w : World) (hgd : o.guard = none) (s x : Operand)
    (ho : o.op = .call { callee := .builtin .append, args := #[s, x], argTypes := #[69, 69] })
    (B : Nat) (v : Value) (l : List Am) (hs : a.eval s = v) (hown : GrowA w B v l) (b off m c : Nat) (news : List Am) (hx : a.eval x = .slice (some ⟨b, off, none⟩) m c) (hsrc : AAt w b off news) (hm : news.length = m)
    (hb : (l.length + m) * 24 ≤ 140737488355328) (hB : B ≤ w.heap.size)
    (h : ∀ v' w', GrowA w' B v' (l ++ news) → w.grownBy w' v.ownBlock → Go.RowKit.Below B w w' → wpList Tryz.prog ops Q rest (a.put o.dst v') w') :
    wpList Tryz.prog ops Q (o :: rest) a w := by
  obtain ⟨v', w', hr, h2, h3, h4⟩ := run_app_ams w o.type B v l hown b off m c news hsrc hm hb hB
  refine wpList_plain hgd fun _ hK => ?_
  unfold Oper.wp execOp
  simp only [ho, resolve, invoke, builtin, Sem.run_bind, Sem.run_pure, Result.andThen_ok, List.map_toArray, List.map_cons, List.map_nil, hs, hx, hr]
  exact hK _ _ (h v' w' h2 h3 h4)
theorem aat_box (w : World) (s : ByteArray) (c : Int) : AAt (w.alloc (.cells #[.string s, .int .i64 c] 72)) w.heap.size 0 [⟨s, c⟩] := by
  refine ⟨by simp, fun j hj => ?_⟩
  obtain rfl : j = 0 := by simpa using hj
  constructor <;> simp [anth]
/-- A plan, as it is handed over. -/
def planV (K A L : Int) (al at' ai : Option Addr) (nl nt ni cl ct ci : Nat) : Value := .agg #[.int .i64 K, .int .i64 A, .int .i64 L, .slice al nl cl, .slice at' nt ct, .slice ai ni ci]
/-- A plan in its box. -/
def PBox (w : World) (b : Nat) (K A L : Int) (al at' ai : Option Addr) (nl nt ni cl ct ci : Nat) : Prop := b < w.heap.size ∧ w.cell? ⟨b, 0, none⟩ = some (.int .i64 K) ∧ w.cell? ⟨b, 1, none⟩ = some (.int .i64 A) ∧ w.cell? ⟨b, 2, none⟩ = some (.int .i64 L) ∧ w.cell? ⟨b, 3, none⟩ = some (.slice al nl cl) ∧ w.cell? ⟨b, 4, none⟩ = some (.slice at' nt ct) ∧ w.cell? ⟨b, 5, none⟩ = some (.slice ai ni ci)
def planO (K A L : Int) (al at' ai : Option Addr) (nl nt ni cl ct ci : Nat) : Obj := .cells #[.int .i64 K, .int .i64 A, .int .i64 L, .slice al nl cl, .slice at' nt ct, .slice ai ni ci] 28
theorem PBox.made (w : World) (K A L : Int) (al at' ai : Option Addr) (nl nt ni cl ct ci : Nat) : PBox (w.alloc (.cells #[.int .i64 K, .int .i64 A, .int .i64 L, .slice al nl cl, .slice at' nt ct, .slice ai ni ci] 28)) w.heap.size K A L al at' ai nl nt ni cl ct ci := by
  refine ⟨?_, ?_, ?_, ?_, ?_, ?_, ?_⟩ <;> simp
theorem PBox.below {w w' : World} {b : Nat} {K A L : Int} {al at' ai : Option Addr} {nl nt ni cl ct ci : Nat} (h : PBox w b K A L al at' ai nl nt ni cl ct ci) {B : Nat} (hb : Below B w w') (hB : b < B) : PBox w' b K A L al at' ai nl nt ni cl ct ci := by
  obtain ⟨h0, h1, h2, h3, h4, h5, h6⟩ := h
  exact ⟨Nat.lt_of_lt_of_le h0 hb.size, (hb.cell (p := ⟨b, 0, none⟩) hB).trans h1, (hb.cell (p := ⟨b, 1, none⟩) hB).trans h2, (hb.cell (p := ⟨b, 2, none⟩) hB).trans h3, (hb.cell (p := ⟨b, 3, none⟩) hB).trans h4, (hb.cell (p := ⟨b, 4, none⟩) hB).trans h5, (hb.cell (p := ⟨b, 5, none⟩) hB).trans h6⟩
/-- An input in its box. -/
def IBox (w : World) (b : Nat) (s : ByteArray) (v : Value) : Prop := b < w.heap.size ∧ w.cell? ⟨b, 0, none⟩ = some (.string s) ∧ w.cell? ⟨b, 1, none⟩ = some v
theorem IBox.made (w : World) (s : ByteArray) (v : Value) : IBox (w.alloc (.cells #[.string s, v] 47)) w.heap.size s v := by
  refine ⟨?_, ?_, ?_⟩ <;> simp
theorem IBox.below {w w' : World} {b : Nat} {s : ByteArray} {v : Value} (h : IBox w b s v) (hb : Below w.heap.size w w') : IBox w' b s v :=
  ⟨Nat.lt_of_lt_of_le h.1 hb.size, (hb.cell (p := ⟨b, 0, none⟩) h.1).trans h.2.1, (hb.cell (p := ⟨b, 1, none⟩) h.1).trans h.2.2⟩
theorem inAms_fit {w : World} {a : Option Addr} {l : List In} (h : CameI w a l) (m : Nat → Int) : ∀ k, k ≤ l.length → NamesFit (inAms l m k)
  | 0, _ => by intro j hj; simp [inAms] at hj
  | k + 1, hk => by
    intro j hj
    rw [inAms_len] at hj
    rw [inAms_at l m (k + 1) j hj]
    obtain ⟨_, _, _, q⟩ := h.open rfl (show 0 < l.length by omega)
    obtain ⟨_, _, _, _, _, q, _⟩ := q w (Below.refl _ _) j (by omega)
    exact q
end Go.Proofs.YtonceehdmnkffaaGreatDoor
namespace Go.Proofs.YtonceehdmnkffaaGreatDoor
open Go.RowKit Go.Sort

def PlanRet (w : World) (p : Pl) (e : Ending) (w' : World) : Prop := ∃ er : Int, e = .returned (.int .i64 er) ∧ PlanIs p er ∧ Below w.heap.size w w'
set_option maxRecDepth 100000 in
set_option maxHeartbeats 2000000 in
theorem Check_plan (p : Pl) (al at' ai : Option Addr) (nl nt ni cl ct ci : Nat) (w : World) (hS : Shp w) (hc : CameP w al at' ai p) (h1 : p.lns.length = nl) (h2 : p.tbs.length = nt) (h3 : p.ins.length = ni) :
    Calls Tryz.prog 11 #[.agg #[.int .i64 p.K, .int .i64 p.A, .int .i64 p.L, .slice al nl cl, .slice at' nt ct, .slice ai ni ci]] w fun e w' => PlanRet w p e w' := by
  have HS := Lib.hid hS
  have HC := Lib.hid hc
  have H1 := Lib.hid h1
  have H2 := Lib.hid h2
  have H3 := Lib.hid h3
  have hm1 : nl ≤ 9223372036854775807 := by have := hc.ml; unfold maxLen at this; omega
  have hm3 : ni ≤ 9223372036854775807 := by have := hc.mi; unfold maxLen at this; omega
  clear hS hc h1 h2 h3
  have HB0 := Lib.hid (kbelow_box w (.cells #[.int .i64 p.K, .int .i64 p.A, .int .i64 p.L, .slice al nl cl, .slice at' nt ct, .slice ai ni ci] 28))
  have HP0 := Lib.hid (PBox.made w p.K p.A p.L al at' ai nl nt ni cl ct ci)
  go_enter Tryz.func11, Tryz.ntmps11
  obtain ⟨_, x0, x1, x2, x3, x4, x5⟩ := HP0.out
  go_wp2_with fail
  refine (Cal.Check_any p.K p.A p.L _).mono ?_
  rintro e w1 ⟨rfl, hb1⟩
  have HB1 := Lib.hid (HB0.out.trans (hb1.mono HB0.out.size))
  have HP1 := Lib.hid (HP0.out.below hb1 HP0.out.1)
  clear hb1 HP0 HB0 x0 x1 x2 x3 x4 x5
  by_cases z1 : Cal.schedE p.K p.A p.L = 0
  · have HZ1 := Lib.hid z1
    rw [z1]
    clear z1
    obtain ⟨_, x0, x1, x2, x3, x4, x5⟩ := HP1.out
    go_wp2_with fail
    refine (check_lines al nl cl p.lns _ (HS.out.below HB1.out) (HC.out.l.below HB1.out) H1.out (by rw [← H1.out]; exact HC.out.ml)).mono ?_
    rintro e w2 ⟨rfl, hb2⟩
    have HB2 := Lib.hid (HB1.out.trans (hb2.mono HB1.out.size))
    have HP2 := Lib.hid (HP1.out.below hb2 HP1.out.1)
    clear hb2 HP1 HB1 x0 x1 x2 x3 x4 x5
    by_cases z2 : linesE p.lns = 0
    · have HZ2 := Lib.hid z2
      rw [z2]
      clear z2
      obtain ⟨_, x0, x1, x2, x3, x4, x5⟩ := HP2.out
      by_cases z3 : 30 < nl ∨ 30 < ni
      · have hmx : decide ((30 : Int) < max (nl : Int) (ni : Int)) = true := decide_eq_true (by omega)
        have HZ3 := Lib.hid z3
        clear z3
        go_wp2_with fail
        go_ret
        exact ⟨_, rfl, .inr (.inr (.inl ⟨HZ1.out, HZ2.out, by rw [H1.out, H3.out]; exact HZ3.out, rfl⟩)), HB2.out⟩
      · have hmx : decide ((30 : Int) < max (nl : Int) (ni : Int)) = false := decide_eq_false (by omega)
        have HZ3 : Hid (p.lns.length ≤ 30 ∧ p.ins.length ≤ 30) := Lib.hid (by rw [H1.out, H3.out]; omega)
        have hni : ni ≤ 30 := by omega
        have HO := Lib.hid (fun h0 => HC.out.i.open H3.out h0)
        have hbw : w.heap.size < w2.heap.size := HP2.out.1
        clear z3
        go_wp2_with fail
        clear x0 x1 x2 x3 x4 x5
        go_loopw [5, 34] (fun v i wr => ∃ k : Nat, k ≤ ni ∧ i = .int .i64 k ∧ hisE p.ins k = 0 ∧ GrowA wr w2.heap.size v (inAms p.ins (fun _ => 0) k) ∧ PBox wr w.heap.size p.K p.A p.L al at' ai nl nt ni cl ct ci ∧ Below w.heap.size w wr ∧ w2.heap.size ≤ wr.heap.size) (fun _ i _ => ni - (intOf i).toNat)
        case atStart => exact ⟨0, Nat.zero_le _, rfl, rfl, GrowA.nil _ _, HP2.out, HB2.out, Nat.le_refl _⟩
        case round =>
          clear HP2 HB2
          obtain ⟨k, hk, rfl, hhis, hgr, hpb, hb, hsz⟩ := hrel
          have HH := Lib.hid hhis
          have HG := Lib.hid hgr
          have HP := Lib.hid hpb
          have HB := Lib.hid hb
          clear hhis hgr hpb hb
          by_cases hlt : k < ni
          · have hlt' : (k : Int) < (ni : Int) := by omega
            obtain ⟨b, off, rfl, hcell⟩ := HO.out (by omega)
            obtain ⟨aj, cj, y0, y1, hcr, hns, hrm⟩ := hcell wr HB.out k hlt
            obtain ⟨nm, hnm⟩ : ∃ nm, (inth p.ins k).name = nm := ⟨_, rfl⟩
            obtain ⟨rs, hrs⟩ : ∃ rs, (inth p.ins k).rows = rs := ⟨_, rfl⟩
            rw [hnm] at y0
            rw [hrs] at y1 hcr hrm
            obtain ⟨m, hm⟩ : ∃ m, rs.length = m := ⟨_, rfl⟩
            rw [hm] at y1 hrm
            have HNM := Lib.hid hnm
            have HRS := Lib.hid hrs
            have HRN := Lib.hid hm
            have HCR := Lib.hid hcr
            have HRM := Lib.hid hrm
            have HBI := Lib.hid (kbelow_box wr (.cells #[.string nm, .slice aj m cj] 47))
            have HIB := Lib.hid (IBox.made wr nm (.slice aj m cj))
            clear hcell hns hnm hrs hm hcr hrm
            go_wp2_with fail
            refine (Hst.Check_any aj m cj rs _ (HCR.out.below HBI.out) HRN.out HRM.out).mono ?_
            rintro e w4 ⟨rfl, hb4⟩
            have HB4' := Lib.hid (HBI.out.trans (hb4.mono HBI.out.size))
            have HB4 := Lib.hid (HB.out.trans (HB4'.out.mono HB.out.size))
            have HP4 := Lib.hid (HP.out.below HB4'.out HP.out.1)
            have HG4 := Lib.hid (HG.out.below HB4'.out)
            have HI4 := Lib.hid (HIB.out.below hb4)
            clear HBI HIB hb4 y0 y1
            by_cases z4 : Hst.histE rs = 0
            · have HZ4 := Lib.hid z4
              rw [z4]
              clear z4
              obtain ⟨_, i0, i1⟩ := HI4.out
              have HBX := Lib.hid (kbelow_box w4 (.cells #[.string nm, .int .i64 0] 72))
              have HG5 := Lib.hid (HG4.out.below HBX.out)
              have HB5 := Lib.hid (HB4.out.trans (HBX.out.mono HB4.out.size))
              have HP5 := Lib.hid (HP4.out.below HBX.out HP4.out.1)
              have HAT := Lib.hid (aat_box w4 nm 0)
              have HSZ : Hid (w2.heap.size ≤ (w4.alloc (.cells #[.string nm, .int .i64 0] 72)).heap.size) := Lib.hid (Nat.le_trans hsz (Nat.le_trans HB4'.out.size HBX.out.size))
              clear HBX HG4 HB4 HP4 HI4 HB4'
              go_wp2_with (first
                | (at_builtin; refine wpList_app_ams _ rfl _ _ rfl w2.heap.size _ (inAms p.ins (fun _ => 0) k) rfl HG5.out w4.heap.size 0 1 1 [⟨nm, 0⟩] rfl HAT.out rfl (by rw [inAms_len]; omega) HSZ.out ?_
                   rintro v6 w6 hg6 hgr6 hb6
                   have HG6 := Lib.hid hg6
                   have HB6 := Lib.hid (HB5.out.trans (hb6.mono (by omega)))
                   have HP6 := Lib.hid (HP5.out.below hb6 hbw)
                   have HS6 := Lib.hid (Nat.le_trans HSZ.out hb6.size)
                   clear hg6 hgr6 hb6))
              go_roundw
              case rel => exact ⟨k + 1, by omega, by go_num, by rw [hisE, if_pos HH.out, HRS.out]; exact HZ4.out, by rw [inAms, HNM.out]; exact HG6.out, HP6.out, HB6.out, HS6.out⟩
              case measure => simp [intOf]; omega
            · have hz4 : decide (Hst.histE rs = 0) = false := decide_eq_false z4
              have HZ4 : Hid (hisE p.ins p.ins.length = Hst.histE rs) := Lib.hid (by rw [← HRS.out]; exact hisE_at (hisE_all HH.out) (by rw [HRS.out]; exact z4) _ (by rw [H3.out]; exact hlt))
              have HZ5 := Lib.hid z4
              go_wp2_with fail
              go_ret
              exact ⟨_, rfl, .inr (.inr (.inr (.inl ⟨HZ1.out, HZ2.out, HZ3.out.1, HZ3.out.2, by rw [HZ4.out]; exact HZ5.out, HZ4.out.symm⟩))), HB4.out⟩
          · obtain rfl : k = ni := by omega
            obtain ⟨xa, ca, rfl, hca⟩ := HG.out.slice
            have HCA := Lib.hid hca
            have HLK : Hid ((inAms p.ins (fun _ => 0) k).length = k) := inAms_len _ _ _
            rw [HLK.out] at HG ⊢
            obtain ⟨_, x0, x1, x2, x3, x4, x5⟩ := HP.out
            have hlt' : decide ((k : Int) < (k : Int)) = false := decide_eq_false (by omega)
            clear hca
            go_wp2_with fail
            refine (Lines_any al nl cl p.lns xa at' none k nt 0 ca ct 0 (knP p) _ (HS.out.below HB.out) (HC.out.l.below HB.out) H1.out (by rw [← H1.out]; exact HC.out.ml) ⟨by unfold knP; rw [H3.out]; exact HCA.out, HC.out.t.below HB.out, .inl rfl, inAms_fit HC.out.i _ _ (Nat.le_refl _), fun j hj => absurd hj (Nat.not_lt_zero _), by unfold knP; rw [inAms_len]; exact HC.out.mi, HC.out.mt, Nat.zero_le _⟩ (by unfold knP; rw [inAms_len]; exact H3.out) H2.out rfl).mono ?_
            rintro e w7 ⟨i7, e7, rfl, hbi, hb7⟩
            have HB7 := Lib.hid (HB.out.trans (hb7.mono HB.out.size))
            have HBI := Lib.hid hbi
            have HH3 : Hid (hisE p.ins p.ins.length = 0) := Lib.hid (by rw [H3.out]; exact HH.out)
            clear hb7 hbi x0 x1 x2 x3 x4 x5
            go_wp2_with fail
            go_ret
            exact ⟨_, rfl, .inr (.inr (.inr (.inr ⟨HZ1.out, HZ2.out, HZ3.out.1, HZ3.out.2, HH3.out, i7, HBI.out⟩))), HB7.out⟩
    · have HZ2 := Lib.hid z2
      have hz2 : decide (linesE p.lns = 0) = false := decide_eq_false z2
      go_wp2_with fail
      go_ret
      exact ⟨_, rfl, .inr (.inl ⟨HZ1.out, HZ2.out, rfl⟩), HB2.out⟩
  · have HZ1 := Lib.hid z1
    have hz1 : decide (Cal.schedE p.K p.A p.L = 0) = false := decide_eq_false z1
    go_wp2_with fail
    go_ret
    exact ⟨_, rfl, .inl ⟨HZ1.out, rfl⟩, HB1.out⟩
end Go.Proofs.YtonceehdmnkffaaGreatDoor
set_option linter.unusedSimpArgs false
namespace Go.Proofs.YtonceehdmnkffaaGreatDoor
open Go.RowKit Go.Sort

/-- The reckoner in its box: a plan, the day at which it is seen, the year, the sums. -/
structure RkAt (w : World) (rb : Nat) (p : Pl) (al at' ai : Option Addr) (nl nt ni cl ct ci : Nat) (seen year : Int) (v : Value) : Prop where
  pb : PBox w rb p.K p.A p.L al at' ai nl nt ni cl ct ci
  s : w.cell? ⟨rb, 6, none⟩ = some (.int .i64 seen)
  y : w.cell? ⟨rb, 7, none⟩ = some (.int .i64 year)
  v : w.cell? ⟨rb, 8, none⟩ = some v
  fy : w.frozen? ⟨rb, 7, none⟩ = false
  fv : w.frozen? ⟨rb, 8, none⟩ = false
theorem RkAt.below {w w' : World} {rb : Nat} {p : Pl} {al at' ai : Option Addr} {nl nt ni cl ct ci : Nat} {seen year : Int} {v : Value} (h : RkAt w rb p al at' ai nl nt ni cl ct ci seen year v) {B : Nat} (hb : Below B w w') (hB : rb < B) : RkAt w' rb p al at' ai nl nt ni cl ct ci seen year v :=
  ⟨h.pb.below hb hB, (hb.cell (p := ⟨rb, 6, none⟩) hB).trans h.s, (hb.cell (p := ⟨rb, 7, none⟩) hB).trans h.y, (hb.cell (p := ⟨rb, 8, none⟩) hB).trans h.v, (hb.frozen (p := ⟨rb, 7, none⟩) hB).trans h.fy, (hb.frozen (p := ⟨rb, 8, none⟩) hB).trans h.fv⟩
/-- What a history comes to at a day. -/
def inV (l : List Hst.Rw) (d s : Int) : Int := if Hst.dayE l [d, s] = 0 then Hst.atV (Hst.best l d s l.length) else 0
theorem inV_of {l : List Hst.Rw} {d s v er : Int} {b : Bool} (h : Hst.AtIs l d s v b er) : v = inV l d s := by
  unfold inV
  rcases h with ⟨h1, h2, _⟩ | ⟨h1, h2, _⟩
  · rw [if_neg h1, h2]
  · rw [if_pos h1, h2]
def insAt (p : Pl) (d s : Int) (k : Nat) : List Am := inAms p.ins (fun j => inV (inth p.ins j).rows d s) k
set_option maxRecDepth 100000 in
set_option maxHeartbeats 2000000 in
theorem inputs_any (rb : Nat) (p : Pl) (al at' ai : Option Addr) (nl nt ni cl ct ci : Nat) (seen year day : Int) (v : Value) (w : World) (hr : RkAt w rb p al at' ai nl nt ni cl ct ci seen year v) (hc : CameI w ai p.ins) (h3 : p.ins.length = ni) (hni : ni ≤ 30) :
    Calls Tryz.prog 70 #[.pointer (some ⟨rb, 0, none⟩), .int .i64 day] w fun e w' => ∃ u, e = .returned u ∧ GrowA w' w.heap.size u (insAt p day seen ni) ∧ Below w.heap.size w w' := by
  have HR := Lib.hid hr
  have HC := Lib.hid hc
  have H3 := Lib.hid h3
  have HO := Lib.hid (fun h0 => hc.open h3 h0)
  have hrb := hr.pb.1
  clear hr hc h3
  obtain ⟨_, x0, x1, x2, x3, x4, x5⟩ := HR.out.pb
  go_enter Tryz.func70, Tryz.ntmps70
  go_wp2_with fail
  clear x0 x1 x2 x3 x4 x5
  go_loopw [5, 17] (fun u i wr => ∃ k : Nat, k ≤ ni ∧ i = .int .i64 k ∧ GrowA wr w.heap.size u (insAt p day seen k) ∧ Below w.heap.size w wr) (fun _ i _ => ni - (intOf i).toNat)
  case atStart => exact ⟨0, Nat.zero_le _, rfl, GrowA.nil _ _, Below.refl _ _⟩
  case round =>
    obtain ⟨k, hk, rfl, hgr, hb⟩ := hrel
    have HG := Lib.hid hgr
    have HB := Lib.hid hb
    clear hgr hb
    by_cases hlt : k < ni
    · have hlt' : (k : Int) < (ni : Int) := by omega
      obtain ⟨b, off, rfl, hcell⟩ := HO.out (by omega)
      obtain ⟨aj, cj, y0, y1, hcr, hns, hrm⟩ := hcell wr HB.out k hlt
      obtain ⟨nm, hnm⟩ : ∃ nm, (inth p.ins k).name = nm := ⟨_, rfl⟩
      obtain ⟨rs, hrs⟩ : ∃ rs, (inth p.ins k).rows = rs := ⟨_, rfl⟩
      rw [hnm] at y0
      rw [hrs] at y1 hcr hrm
      obtain ⟨m, hm⟩ : ∃ m, rs.length = m := ⟨_, rfl⟩
      rw [hm] at y1 hrm
      have HNM := Lib.hid hnm
      have HRS := Lib.hid hrs
      have HBI := Lib.hid (kbelow_box wr (.cells #[.string nm, .slice aj m cj] 47))
      have HIB := Lib.hid (IBox.made wr nm (.slice aj m cj))
      have HRW := Lib.hid (HR.out.below (HB.out.trans (HBI.out.mono HB.out.size)) hrb)
      have HAT : Hid (∀ W, Below (wr.alloc (.cells #[.string nm, .slice aj m cj] 47)).heap.size (wr.alloc (.cells #[.string nm, .slice aj m cj] 47)) W → Calls Tryz.prog 74 #[.slice aj m cj, .int .i64 day, .int .i64 seen] W fun e w' => ∃ (v : Int) (b : Bool) (er : Int), e = .returned (.tuple #[.int .i64 v, .bool b, .int .i64 er]) ∧ Hst.AtIs rs day seen v b er ∧ Below W.heap.size W w') := fun W hW => Hst.At_any aj m cj rs day seen W ((hcr.below HBI.out).below hW) hm hrm
      clear hcell hns hnm hrs hm hcr hrm
      have hgb := HG.out.below HBI.out
      have HGB := Lib.hid hgb
      have HBX := Lib.hid (HB.out.trans (HBI.out.mono HB.out.size))
      clear hgb
      go_wp2_with fail
      generalize hX : (wr.alloc (.cells #[.string nm, .slice aj m cj] 47)) = X at *
      obtain ⟨hIlt, i0, i1⟩ := HIB.out
      have s0 := HRW.out.s
      clear y0 y1
      go_region_held_law (fun w' => w'.cell? ⟨wr.heap.size, 1, none⟩ = some (.slice aj m cj) ∧ w'.cell? ⟨rb, 6, none⟩ = some (.int .i64 seen)) (go_keep)
        (first
          | (go_at_call 74; refine (HAT.out _ (kbelow_dN (Below.refl _ _) 1)).mono ?_; rintro e w4 ⟨n4, b4, e4, rfl, hat4, hb4⟩
             have HB4' := Lib.hid (nfrom_drew hb4)
             have HV4 := Lib.hid (inV_of hat4)
             have j0 := (HB4'.out.cell (p := ⟨wr.heap.size, 0, none⟩) hIlt).trans i0
             have j1 := (HB4'.out.cell (p := ⟨wr.heap.size, 1, none⟩) hIlt).trans i1
             have t0 := (HB4'.out.cell (p := ⟨rb, 6, none⟩) (blt_of_cell s0)).trans s0
             clear hat4 hb4))
      have HBY := Lib.hid (kbelow_box w4 (.cells #[.string nm, .int .i64 n4] 72))
      have HG5 := Lib.hid ((HGB.out.below HB4'.out).below HBY.out)
      have HB4 := Lib.hid (HBX.out.trans (HB4'.out.mono HBX.out.size))
      have HB5 := Lib.hid (HB4.out.trans (HBY.out.mono HB4.out.size))
      have HAB := Lib.hid (aat_box w4 nm n4)
      go_wp2_with (first
        | (at_builtin; refine wpList_app_ams _ rfl _ _ rfl w.heap.size _ (insAt p day seen k) rfl HG5.out w4.heap.size 0 1 1 [⟨nm, n4⟩] rfl HAB.out rfl (by unfold insAt; rw [inAms_len]; omega) HB5.out.size ?_
           rintro v6 w6 hg6 hgr6 hb6
           have HG6 := Lib.hid hg6
           have HB6 := Lib.hid (HB5.out.trans hb6)
           clear hg6 hgr6 hb6))
      go_roundw
      case rel => exact ⟨k + 1, by omega, by go_num, by unfold insAt; rw [inAms, HNM.out, HRS.out, ← HV4.out]; exact HG6.out, HB6.out⟩
      case measure => simp [intOf]; omega
    · obtain rfl : k = ni := by omega
      have hlt' : decide ((k : Int) < (k : Int)) = false := decide_eq_false (by omega)
      go_wp2_with fail
      go_ret
      exact ⟨_, rfl, HG.out, HB.out⟩
end Go.Proofs.YtonceehdmnkffaaGreatDoor
set_option linter.unusedSimpArgs false
namespace Go.Proofs.YtonceehdmnkffaaGreatDoor
open Go.RowKit Go.Sort

theorem make_ints (n : Nat) (h : n ≤ 1000000000) (w : World) :
    (Instr.makeSlice 53 (.int .i64 (n : Int)) (.int .i64 (n : Int))).run Tryz.prog w = .ok (.slice (some ⟨w.heap.size, 0, none⟩) n n) (w.alloc (.cells (madeCells #[.int .i64 0] n) 3)) := by
  obtain ⟨i0, hi, hz0, hz1, hz2⟩ := info_parts info_i
  have := run_make (P := Tryz.prog) w 53 3 i0 (.int .i64 0) Tryz.underlying53 hi hz0 .i64 .i64 n n (by omega) (by omega) (by rw [hz2]; omega) (by omega)
  simpa [hz1, Value.cells] using this
theorem RkAt.set {w : World} {rb : Nat} {p : Pl} {al at' ai : Option Addr} {nl nt ni cl ct ci : Nat} {seen year : Int} {v : Value} (h : RkAt w rb p al at' ai nl nt ni cl ct ci seen year v) (y : Int) (u : Value) : RkAt ((w.setCell ⟨rb, 7, none⟩ (.int .i64 y)).setCell ⟨rb, 8, none⟩ u) rb p al at' ai nl nt ni cl ct ci seen y u := by
  have far : ∀ k, k ≠ 7 → k ≠ 8 → ((w.setCell ⟨rb, 7, none⟩ (.int .i64 y)).setCell ⟨rb, 8, none⟩ u).cell? ⟨rb, k, none⟩ = w.cell? ⟨rb, k, none⟩ := fun k h7 h8 => by
    rw [World.cell?_setCell_other (h := fun e => by injection e with _ e _; exact h8 e.symm), World.cell?_setCell_other (h := fun e => by injection e with _ e _; exact h7 e.symm)]
  obtain ⟨⟨h0, h1, h2, h3, h4, h5, h6⟩, hs, hy, hv, hfy, hfv⟩ := h
  refine ⟨⟨by simpa using h0, ?_, ?_, ?_, ?_, ?_, ?_⟩, ?_, ?_, ?_, ?_, ?_⟩
  · exact (far 0 (by omega) (by omega)).trans h1
  · exact (far 1 (by omega) (by omega)).trans h2
  · exact (far 2 (by omega) (by omega)).trans h3
  · exact (far 3 (by omega) (by omega)).trans h4
  · exact (far 4 (by omega) (by omega)).trans h5
  · exact (far 5 (by omega) (by omega)).trans h6
  · exact (far 6 (by omega) (by omega)).trans hs
  · rw [World.cell?_setCell_other (h := fun e => by injection e with _ e _; cases e)]
    exact World.cell?_setCell_same _ _ _ hy
  · refine World.cell?_setCell_same _ _ _ (u := v) ?_
    rw [World.cell?_setCell_other (h := fun e => by injection e with _ e _; cases e)]
    exact hv
  · rw [World.frozen?_setCell, World.frozen?_setCell]; exact hfy
  · rw [World.frozen?_setCell, World.frozen?_setCell]; exact hfv
set_option maxRecDepth 100000 in
set_option maxHeartbeats 2000000 in
theorem goTo_any (rb : Nat) (p : Pl) (al at' ai : Option Addr) (nl nt ni cl ct ci : Nat) (seen year day : Int) (v : Value) (w : World) (hr : RkAt w rb p al at' ai nl nt ni cl ct ci seen year v) (hd : Cal.dayB day = true) (hnl : nl ≤ 30) :
    Calls Tryz.prog 68 #[.pointer (some ⟨rb, 0, none⟩), .int .i64 day] w fun e w' => e = .returned (.tuple #[]) ∧ ∃ (k m : Nat) (d : Int), Cal.IsCivil day k m d ∧ ((year = 2000 + k ∧ Below w.heap.size w w') ∨ (year ≠ 2000 + k ∧ ∃ g, w.heap.size ≤ g ∧ RkAt w' rb p al at' ai nl nt ni cl ct ci seen (2000 + k) (.slice (some ⟨g, 0, none⟩) nl nl) ∧ Own w' g (List.replicate nl 0) ∧ w.grownBy w' (some rb))) := by
  have HR := Lib.hid hr
  have HD := Lib.hid hd
  have hrb := hr.pb.1
  clear hr hd
  go_enter Tryz.func68, Tryz.ntmps68
  go_wp2_with fail
  refine (Cal.Civil_ok day w HD.out).mono ?_
  rintro e w1 ⟨k, m, d, rfl, hciv, hb1⟩
  have HCV := Lib.hid hciv
  have HB1 := Lib.hid hb1
  have HBD := Lib.hid (kbelow_box w1 (.cells #[.int .i64 (2000 + k), .int .i64 m, .int .i64 d] 60))
  have HBX := Lib.hid (hb1.trans (HBD.out.mono hb1.size))
  have HRX := Lib.hid (HR.out.below HBX.out hrb)
  have c0 : (w1.alloc (.cells #[.int .i64 (2000 + k), .int .i64 m, .int .i64 d] 60)).cell? ⟨w1.heap.size, 0, none⟩ = some (.int .i64 (2000 + k)) := by simp
  have hlt1 : w1.heap.size < (w1.alloc (.cells #[.int .i64 (2000 + k), .int .i64 m, .int .i64 d] 60)).heap.size := by simp
  have hs1 : w.heap.size ≤ w1.heap.size := hb1.size
  clear hciv hb1
  go_wp2_with fail
  generalize hX : (w1.alloc (.cells #[.int .i64 (2000 + k), .int .i64 m, .int .i64 d] 60)) = X at *
  have y0 := HRX.out.y
  go_quiet (fail)
  by_cases hy : (2000 : Int) + k = year
  · have HY := Lib.hid hy
    have hyB : ((2000 : Int) + k != year) = false := by simp [hy]
    clear hy
    go_wp2_with fail
    exact ⟨rfl, .tuple #[], by simp [results, Tryz.results68, go_sem], rfl, k, m, d, HCV.out, .inl ⟨HY.out.symm, kbelow_dN HBX.out _⟩⟩
  · have HY := Lib.hid hy
    have hyB : ((2000 : Int) + k != year) = true := by simp [hy]
    clear hy
    go_wp2_with fail
    have HBY := Lib.hid (kbelow_dN HBX.out nq)
    have HRY := Lib.hid (HR.out.below HBY.out hrb)
    have c1 : (X.drewN nq).cell? ⟨w1.heap.size, 0, none⟩ = some (.int .i64 (2000 + k)) := c0
    have hltY : w1.heap.size < (X.drewN nq).heap.size := hlt1
    have hmk := make_ints nl (by omega)
    clear c0 hlt1 y0 HRX HBX HBD hX
    generalize X.drewN nq = Y at *
    obtain ⟨r0, _, _, _, r3, _, _⟩ := HRY.out.pb
    have r7 := HRY.out.y
    have r8 := HRY.out.v
    have f7 := HRY.out.fy
    have f8 := HRY.out.fv
    have hne : w1.heap.size ≠ rb := by omega
    have hne' : rb ≠ w1.heap.size := by omega
    have q1 : ∀ z, (Y.setCell ⟨rb, 7, none⟩ z).cell? ⟨w1.heap.size, 0, none⟩ = some (.int .i64 (2000 + k)) := fun z => (World.cell?_setCell_far Y ⟨rb, 7, none⟩ ⟨w1.heap.size, 0, none⟩ z hne').trans c1
    have q2 : ∀ z, (Y.setCell ⟨rb, 7, none⟩ z).cell? ⟨rb, 3, none⟩ = some (.slice al nl cl) := fun z => by
      rw [World.cell?_setCell_other (h := fun e => by injection e with _ e _; cases e)]; exact r3
    have q8 : ∀ z, (Y.setCell ⟨rb, 7, none⟩ z).cell? ⟨rb, 8, none⟩ = some v := fun z => by
      rw [World.cell?_setCell_other (h := fun e => by injection e with _ e _; cases e)]; exact r8
    have q3 : ∀ z u, ((Y.setCell ⟨rb, 7, none⟩ z).setCell ⟨rb, 8, none⟩ u).cell? ⟨w1.heap.size, 0, none⟩ = some (.int .i64 (2000 + k)) := fun z u => (World.cell?_setCell_far _ ⟨rb, 8, none⟩ ⟨w1.heap.size, 0, none⟩ u hne').trans (q1 z)
    have q4 : ∀ z u, ((Y.setCell ⟨rb, 7, none⟩ z).setCell ⟨rb, 8, none⟩ u).cell? ⟨rb, 3, none⟩ = some (.slice al nl cl) := fun z u => by
      rw [World.cell?_setCell_other (h := fun e => by injection e with _ e _; cases e)]; exact q2 z
    have k1 : ∀ z o, ((Y.setCell ⟨rb, 7, none⟩ z).alloc o).cell? ⟨w1.heap.size, 0, none⟩ = some (.int .i64 (2000 + k)) := fun z o => ((kbelow_box _ o).cell (p := ⟨w1.heap.size, 0, none⟩) (blt_of_cell (q1 z))).trans (q1 z)
    have k2 : ∀ z o, ((Y.setCell ⟨rb, 7, none⟩ z).alloc o).cell? ⟨rb, 3, none⟩ = some (.slice al nl cl) := fun z o => ((kbelow_box _ o).cell (p := ⟨rb, 3, none⟩) (blt_of_cell (q2 z))).trans (q2 z)
    have k8 : ∀ z o, ((Y.setCell ⟨rb, 7, none⟩ z).alloc o).cell? ⟨rb, 8, none⟩ = some v := fun z o => ((kbelow_box _ o).cell (p := ⟨rb, 8, none⟩) (blt_of_cell (q8 z))).trans (q8 z)
    have k3 : ∀ z u o, (((Y.setCell ⟨rb, 7, none⟩ z).setCell ⟨rb, 8, none⟩ u).alloc o).cell? ⟨w1.heap.size, 0, none⟩ = some (.int .i64 (2000 + k)) := fun z u o => ((kbelow_box _ o).cell (p := ⟨w1.heap.size, 0, none⟩) (blt_of_cell (q3 z u))).trans (q3 z u)
    have k4 : ∀ z u o, (((Y.setCell ⟨rb, 7, none⟩ z).setCell ⟨rb, 8, none⟩ u).alloc o).cell? ⟨rb, 3, none⟩ = some (.slice al nl cl) := fun z u o => ((kbelow_box _ o).cell (p := ⟨rb, 3, none⟩) (blt_of_cell (q4 z u))).trans (q4 z u)
    go_region_held_law (fun w' => w'.cell? ⟨w1.heap.size, 0, none⟩ = some (.int .i64 (2000 + k)) ∧ w'.cell? ⟨rb, 3, none⟩ = some (.slice al nl cl)) (first | go_keep | exact ⟨k1 _ _, k2 _ _⟩ | exact ⟨k3 _ _ _, k4 _ _ _⟩) (fail)
    all_goals
      have HZ0 := Lib.hid (HRY.out.set (2000 + k) (.slice (some ⟨Y.heap.size, 0, none⟩) nl nl))
      have HZB := Lib.hid (kbelow_dN (kbelow_box ((Y.setCell ⟨rb, 7, none⟩ (.int .i64 (2000 + k))).setCell ⟨rb, 8, none⟩ (.slice (some ⟨Y.heap.size, 0, none⟩) nl nl)) (.cells (madeCells #[.int .i64 0] nl) 3)) 1)
      have hsz : ((Y.setCell ⟨rb, 7, none⟩ (.int .i64 (2000 + k))).setCell ⟨rb, 8, none⟩ (.slice (some ⟨Y.heap.size, 0, none⟩) nl nl)).heap.size = Y.heap.size := by simp
      have HOW := Lib.hid ((Own.made ((Y.setCell ⟨rb, 7, none⟩ (.int .i64 (2000 + k))).setCell ⟨rb, 8, none⟩ (.slice (some ⟨Y.heap.size, 0, none⟩) nl nl)) nl 3).drewN 1)
      rw [hsz] at HOW
      refine ⟨rfl, .tuple #[], by simp [results, Tryz.results68, go_sem], rfl, k, m, d, HCV.out, .inr ⟨fun e => HY.out e.symm, Y.heap.size, HBY.out.size, HZ0.out.below HZB.out HZ0.out.pb.1, HOW.out, HBY.out.os, HBY.out.tape, HBY.out.output, ?_, fun j hj hne => ?_⟩⟩
      · have h1 := HBY.out.size
        have h2 := HZB.out.size
        rw [hsz] at h2
        exact Nat.le_trans h1 h2
      · have hjr : j ≠ rb := fun e => hne (by rw [e])
        refine (HZB.out.block j (by rw [hsz]; exact Nat.lt_of_lt_of_le hj HBY.out.size)).trans ?_
        rw [Below.heap_setCell _ _ _ _ (by exact hjr), Below.heap_setCell _ _ _ _ (by exact hjr)]
        exact HBY.out.block j hj
end Go.Proofs.YtonceehdmnkffaaGreatDoor
namespace Go.Proofs.YtonceehdmnkffaaGreatDoor
open Go.Shelf
def sh_sort_ren : Go.Shelf.Ren := ⟨fun | 6 => 99 | 15 => 127 | 14 => 126 | 28 => 152 | 29 => 153 | 20 => 144 | 21 => 145 | 22 => 146 | 23 => 147 | 24 => 148 | 25 => 149 | 26 => 150 | 27 => 151 | 46 => 159 | 47 => 160 | 48 => 161 | 49 => 162 | 50 => 163 | 57 => 169 | n => n, fun | 22 => 69 | 24 => 72 | 25 => 149 | 3 => 3 | 39 => 174 | 0 => 0 | 53 => 192 | 55 => 194 | 4 => 4 | 46 => 186 | 45 => 185 | 50 => 105 | 5 => 5 | 9 => 9 | 66 => 199 | 70 => 203 | 76 => 207 | 77 => 208 | n => n, fun | n => n⟩
theorem sh_sort : Go.Proofs.SlLaysF0.n6 Tryz.prog sh_sort_ren := {
  mixed := by kernel_rfl
  f6 := ⟨Tryz.f99.name, by decide, Tryz.func99.trans (congrArg some (by kernel_rfl))⟩
  f14 := ⟨Tryz.f126.name, by decide, Tryz.func126.trans (congrArg some (by kernel_rfl))⟩
  f15 := Tryz.func127.trans (congrArg some (by kernel_rfl))
  f20 := ⟨Tryz.f144.name, by decide, Tryz.func144.trans (congrArg some (by kernel_rfl))⟩
  f21 := ⟨Tryz.f145.name, by decide, Tryz.func145.trans (congrArg some (by kernel_rfl))⟩
  f22 := ⟨Tryz.f146.name, by decide, Tryz.func146.trans (congrArg some (by kernel_rfl))⟩
  f23 := ⟨Tryz.f147.name, by decide, Tryz.func147.trans (congrArg some (by kernel_rfl))⟩
  f24 := ⟨Tryz.f148.name, by decide, Tryz.func148.trans (congrArg some (by kernel_rfl))⟩
  f25 := ⟨Tryz.f149.name, by decide, Tryz.func149.trans (congrArg some (by kernel_rfl))⟩
  f26 := ⟨Tryz.f150.name, by decide, Tryz.func150.trans (congrArg some (by kernel_rfl))⟩
  f27 := ⟨Tryz.f151.name, by decide, Tryz.func151.trans (congrArg some (by kernel_rfl))⟩
  f28 := Tryz.func152.trans (congrArg some (by kernel_rfl))
  f29 := Tryz.func153.trans (congrArg some (by kernel_rfl))
  f46 := ⟨Tryz.f159.name, by decide, Tryz.func159.trans (congrArg some (by kernel_rfl))⟩
  f47 := Tryz.func160.trans (congrArg some (by kernel_rfl))
  f48 := Tryz.func161.trans (congrArg some (by kernel_rfl))
  f49 := ⟨Tryz.f162.name, by decide, Tryz.func162.trans (congrArg some (by kernel_rfl))⟩
  f50 := ⟨Tryz.f163.name, by decide, Tryz.func163.trans (congrArg some (by kernel_rfl))⟩
  f57 := ⟨Tryz.f169.name, by decide, Tryz.func169.trans (congrArg some (by kernel_rfl))⟩
  t0 := Tryz.underlying0
  a0 := Tryz.isAgg0
  z0 := Tryz.sizeOf0
  v0 := Tryz.zeroValue0
  t3 := Tryz.underlying3
  a3 := Tryz.isAgg3
  z3 := Tryz.sizeOf3
  v3 := Tryz.zeroValue3
  t4 := Tryz.underlying4
  a4 := Tryz.isAgg4
  z4 := Tryz.sizeOf4
  v4 := Tryz.zeroValue4
  t5 := Tryz.underlying5
  a5 := Tryz.isAgg5
  z5 := Tryz.sizeOf5
  v5 := Tryz.zeroValue5
  t9 := Tryz.underlying9
  a9 := Tryz.isAgg9
  z9 := Tryz.sizeOf9
  v9 := Tryz.zeroValue9
  t22 := Tryz.underlying69
  a22 := Tryz.isAgg69
  z22 := Tryz.sizeOf69
  v22 := Tryz.zeroValue69
  t25 := Tryz.underlying149
  a25 := Tryz.isAgg149
  z25 := Tryz.sizeOf149
  v25 := Tryz.zeroValue149
  t39 := Tryz.underlying174
  a39 := Tryz.isAgg174
  z39 := Tryz.sizeOf174
  v39 := Tryz.zeroValue174
  t45 := Tryz.underlying185
  a45 := Tryz.isAgg185
  z45 := Tryz.sizeOf185
  v45 := Tryz.zeroValue185
  t46 := Tryz.underlying186
  a46 := Tryz.isAgg186
  z46 := Tryz.sizeOf186
  v46 := Tryz.zeroValue186
  t50 := Tryz.underlying105
  a50 := Tryz.isAgg105
  z50 := Tryz.sizeOf105
  v50 := Tryz.zeroValue105
  t53 := Tryz.underlying192
  a53 := Tryz.isAgg192
  z53 := Tryz.sizeOf192
  v53 := Tryz.zeroValue192
  t55 := Tryz.underlying194
  a55 := Tryz.isAgg194
  z55 := Tryz.sizeOf194
  v55 := Tryz.zeroValue194
  t66 := Tryz.underlying199
  a66 := Tryz.isAgg199
  z66 := Tryz.sizeOf199
  v66 := Tryz.zeroValue199
  t70 := Tryz.underlying203
  a70 := Tryz.isAgg203
  z70 := Tryz.sizeOf203
  v70 := Tryz.zeroValue203
  t76 := Tryz.underlying207
  a76 := Tryz.isAgg207
  z76 := Tryz.sizeOf207
  v76 := Tryz.zeroValue207
  t77 := Tryz.underlying208
  a77 := Tryz.isAgg208
  z77 := Tryz.sizeOf208
  v77 := Tryz.zeroValue208 }
end Go.Proofs.YtonceehdmnkffaaGreatDoor
namespace Go.Proofs.YtonceehdmnkffaaGreatDoor
open Go.RowKit Go.Sort Go.Shelf

def ltS (a b : ByteArray) : Bool := Op.bytesLess a.toList b.toList
def ciS (a b : ByteArray) : Int := if ltS a b = true then -1 else if (a.toList == b.toList) = true then 0 else 1
theorem isNaNS (x : ByteArray) (w : World) : Calls Tryz.prog 128 #[.string x] w fun e w' => e = .returned (.bool false) ∧ w' = w := by
  go_enter Tryz.func128, Tryz.ntmps128
  go_wp2_with fail
  go_ret
  exact ⟨kret_bool (by simp), rfl⟩
set_option maxHeartbeats 1000000 in
theorem compareS (x y : ByteArray) (w : World) : Calls Tryz.prog 101 #[.string x, .string y] w fun e w' => e = .returned (.int .i64 (ciS x y)) ∧ w' = w := by
  cases h1 : ltS x y
  · cases h2 : (x.toList == y.toList)
    · have H : Hid (ciS x y = 1) := Lib.hid (by unfold ciS; rw [h1, h2]; rfl)
      unfold ltS at h1
      go_enter Tryz.func101, Tryz.ntmps101
      go_wp2_with (first | (go_at_call 128; refine (isNaNS _ _).mono ?_; rintro e w' ⟨rfl, h'⟩; subst w'))
      go_ret
      exact ⟨kret_int H.out.symm, rfl⟩
    · have H : Hid (ciS x y = 0) := Lib.hid (by unfold ciS; rw [h1, h2]; rfl)
      unfold ltS at h1
      go_enter Tryz.func101, Tryz.ntmps101
      go_wp2_with (first | (go_at_call 128; refine (isNaNS _ _).mono ?_; rintro e w' ⟨rfl, h'⟩; subst w'))
      go_ret
      exact ⟨kret_int H.out.symm, rfl⟩
  · have H : Hid (ciS x y = -1) := Lib.hid (by unfold ciS; rw [h1]; rfl)
    unfold ltS at h1
    go_enter Tryz.func101, Tryz.ntmps101
    go_wp2_with (first | (go_at_call 128; refine (isNaNS _ _).mono ?_; rintro e w' ⟨rfl, h'⟩; subst w'))
    go_ret
    exact ⟨kret_int H.out.symm, rfl⟩
def cmpA (a b : Am) : Int := ciS a.name b.name
set_option maxHeartbeats 1000000 in
theorem byName_any (m1 m2 : Int) (s1 s2 : ByteArray) (w : World) :
    Calls Tryz.prog 100 #[.agg #[.string s1, .int .i64 m1], .agg #[.string s2, .int .i64 m2]] w fun e w' => e = .returned (.int .i64 (cmpA ⟨s1, m1⟩ ⟨s2, m2⟩)) ∧ ∃ q os, w' = grow (w.drewN q) os := by
  have HE : Hid (cmpA ⟨s1, m1⟩ ⟨s2, m2⟩ = ciS s1 s2) := rfl
  have HG : Hid (∃ q os, (w.alloc (.cells #[.string s1, .int .i64 m1] 72)).alloc (.cells #[.string s2, .int .i64 m2] 72) = grow (w.drewN q) os) := ⟨0, _, by rw [alloc_eq_grow, alloc_eq_grow, grow_grow]; rfl⟩
  go_enter Tryz.func100, Tryz.ntmps100
  go_wp2_with (first | (go_at_call 101; refine (compareS _ _ _).mono ?_; rintro e w' ⟨rfl, h'⟩; subst w'))
  go_ret
  exact ⟨kret_int HE.out.symm, HG.out⟩
theorem bytesLessL : ∀ (x y : List UInt8), Op.bytesLess x y = decide (x < y)
  | [], [] => by simp [Op.bytesLess]
  | _ :: _, [] => by simp [Op.bytesLess]
  | [], _ :: _ => by simp [Op.bytesLess]
  | a :: x, b :: y => by
    rw [Op.bytesLess, bytesLessL x y]
    simp only [List.cons_lt_cons_iff]
    by_cases h1 : a < b <;> by_cases h2 : a = b <;> by_cases h3 : x < y <;> simp [h1, h2, h3]
theorem ltS_iff {a b : ByteArray} : ltS a b = true ↔ a.toList < b.toList := by unfold ltS; rw [bytesLessL]; simp
theorem ltS_irrefl (a : ByteArray) : ltS a a = false := by
  rw [Bool.eq_false_iff]
  intro h
  exact List.lt_irrefl _ (ltS_iff.1 h)
theorem ltS_trans {a b c : ByteArray} (h1 : ltS a b = true) (h2 : ltS b c = true) : ltS a c = true := ltS_iff.2 (List.lt_trans (ltS_iff.1 h1) (ltS_iff.1 h2))
theorem ltS_tri {a b : ByteArray} (h1 : ltS a b = false) (h2 : ltS b a = false) : a = b := by
  have e1 : ¬ a.toList < b.toList := fun h => by rw [ltS_iff.2 h] at h1; cases h1
  have e2 : ¬ b.toList < a.toList := fun h => by rw [ltS_iff.2 h] at h2; cases h2
  have e : a.toList = b.toList := List.le_antisymm (List.not_lt.1 e2) (List.not_lt.1 e1)
  rw [ByteArray.toList_eq, ByteArray.toList_eq] at e
  cases a
  cases b
  simp at e
  rw [e]
theorem ltOf_cmpA (x y : Am) : ltOf cmpA x y = ltS x.name y.name := by
  unfold ltOf cmpA ciS
  cases h : ltS x.name y.name
  · simp
    split <;> decide
  · simp
theorem swoA : SWO (ltOf cmpA) where
  irrefl x := by rw [ltOf_cmpA, ltS_irrefl]
  trans x y z h1 h2 := by rw [ltOf_cmpA] at *; exact ltS_trans h1 h2
  ntrans x y z h1 h2 := by
    rw [ltOf_cmpA] at *
    rw [Bool.eq_false_iff]
    intro h
    cases h3 : ltS y.name x.name
    · rw [ltS_tri h1 h3] at h
      rw [h] at h2; cases h2
    · have := ltS_trans h3 h
      rw [this] at h2; cases h2
theorem cmpLaysA (blk off size : Nat) (w : World) : CmpLays Tryz.prog 100 #[] encA 2 cmpA blk off size w :=
  fun _ _ _ _ x y => byName_any x.mon y.mon x.name y.name _
theorem sort_enters : ∀ args w, (callFunc 100 args).run Tryz.prog w = .ok (.enter 100 args) w := enters_of Tryz.func100 (by kernel_rfl) rfl
theorem isAggA : ∀ w, (isAgg 72).run Tryz.prog w = .ok true w := fun _ => by kernel_rfl
theorem sizeOfA : ∀ w, (Go.sizeOf 72).run Tryz.prog w = .ok 2 w := fun _ => by kernel_rfl
theorem GrowA.formK {w : World} {B : Nat} {v : Value} {l : List Am} (h : GrowA w B v l) : (v = .slice none 0 0 ∧ l = []) ∨ ∃ g c, v = .slice (some ⟨g, 0, none⟩) l.length c ∧ B ≤ g ∧ AAt w g 0 l ∧ HoldsK encA 2 w g 0 l.toArray := by
  have hh := h
  rcases h.2 with ⟨h1, h2⟩ | ⟨g, c, cur, h1, h2, hgc, _⟩
  · exact .inl ⟨h1, List.eq_nil_of_length_eq_zero h2⟩
  · subst h1
    have key : ∀ j, j < l.length → ∀ c, c < 2 → ∀ u, (encA (anth l j))[c]? = some u → w.cell? ⟨g, j * 2 + c, none⟩ = some u := fun j hj c hc u hu => by
      have := World.ownsRow.cells hh (g := g) rfl (j * 2 + c) u ((cellsL_get l j c hj hc).trans hu)
      rwa [Addr.add_lit, Nat.zero_add] at this
    refine .inr ⟨g, c, rfl, h2, ⟨(GrowA.lt hh g rfl).2, fun j hj => ?_⟩, ?_⟩
    · rw [Nat.zero_add]
      exact ⟨key j hj 0 (by omega) _ rfl, key j hj 1 (by omega) _ rfl⟩
    · intro t ht
      have ht' : t < l.length * 2 := by simpa using ht
      have hk : t / 2 < l.length := by omega
      refine ⟨?_, by simp [World.frozen?, hgc]⟩
      rw [get_flatK _ _ _ _ (by simpa using ht')]
      have e : l.toArray[t / 2]! = anth l (t / 2) := by
        rw [getElem!_pos l.toArray (t / 2) (by simpa using hk)]
        simp [anth, List.getD_eq_getElem?_getD, hk]
      rw [e]
      have := key (t / 2) hk (t % 2) (by omega) ((encA (anth l (t / 2)))[t % 2]!) (by
        have hl : t % 2 < (encA (anth l (t / 2))).length := by simp [encA]; omega
        rw [List.getElem?_eq_getElem hl, getElem!_pos (encA (anth l (t / 2))) (t % 2) hl])
      rw [show t / 2 * 2 + t % 2 = t by omega] at this
      simpa using this
theorem aat_of_holdsK {w : World} {g : Nat} {d : Array Am} (hg : g < w.heap.size) (h : HoldsK encA 2 w g 0 d) : AAt w g 0 d.toList := by
  refine ⟨hg, fun j hj => ?_⟩
  have hj' : j < d.size := by simpa using hj
  have e : anth d.toList j = d[j]! := by
    unfold anth
    rw [List.getD_eq_getElem?_getD, Array.getElem?_toList, Array.getElem?_eq_getElem hj', getElem!_pos d j hj']
    rfl
  rw [e, Nat.zero_add]
  have c0 := (h.cell hj' (c := 0) (by omega)).1
  have c1 := (h.cell hj' (c := 1) (by omega)).1
  rw [Nat.zero_add] at c0 c1
  exact ⟨c0, c1⟩
theorem below_sorted {B : Nat} {w0 w : World} {g m : Nat} {d : Array Am} {os : Array Obj} (h : Go.RowKit.Below B w0 w) (hg : B ≤ g) (h0 : B ≤ w0.heap.size) : Go.RowKit.Below B w0 (sortWorldK encA 2 w g 0 m d os) := by
  unfold sortWorldK putRowK
  have h1 := Lib.below_putRow (enc := (id : Value → Value)) (q := m) (d := flatK encA 2 d) h hg
  refine ⟨h1.os, h1.tape, h1.output, Nat.le_trans h1.size (by simp [grow]), fun k hk => ?_⟩
  rw [← h1.block k hk]
  show (_ ++ os)[k]? = _
  rw [Array.getElem?_append_left (Nat.lt_of_lt_of_le (Nat.lt_of_lt_of_le hk h0) h1.size)]
/-- The amounts l', in the row of l, that the sort makes of l. -/
def SortIs (w : World) (g : Nat) (l : List Am) (w' : World) : Prop := ∃ l' : List Am, l'.Perm l ∧ (∀ i j, i < j → j < l'.length → ltS (anth l' j).name (anth l' i).name = false) ∧ AAt w' g 0 l' ∧ ∀ (B : Nat) (w0 : World), B ≤ g → B ≤ w0.heap.size → Go.RowKit.Below B w0 w → Go.RowKit.Below B w0 w'
theorem sort_any (g cap : Nat) (l : List Am) (w : World) (hH : HoldsK encA 2 w g 0 l.toArray) (hg : g < w.heap.size) (hs : l.length < 4611686018427387904) :
    Calls Tryz.prog 99 #[.slice (some ⟨g, 0, none⟩) l.length cap, .func (.func 100) #[] #[]] w fun e w' => e = .returned (.tuple #[]) ∧ SortIs w g l w' := by
  have hcon := AnyQ.slices_SortFunc sh_sort 2 isAggA sizeOfA encA (fun _ => rfl) encA_one cmpA swoA 100 #[] g 0 cap l.toArray w sort_enters (cmpLaysA g 0 l.toArray.size w) hH hg (by simpa using hs)
  change Calls Tryz.prog 99 _ _ _ at hcon
  refine hcon.mono fun e w' ⟨he, d', n, os, hp, hso, hw⟩ => ⟨he, d'.toList, ?_, ?_, ?_, ?_⟩
  · have h1 := hp.1
    have h2 := hp.2.2
    have e1 : d'.extract 0 l.toArray.size = d' := by rw [← h1]; simp
    rw [e1] at h2
    simpa using h2
  · intro i j hij hj
    have h1 := hp.1
    have := hso i j (Nat.zero_le _) hij (by simpa [h1] using hj)
    rw [ltOf_cmpA] at this
    have e : ∀ k, k < d'.size → anth d'.toList k = d'[k]! := fun k hk => by
      unfold anth
      rw [List.getD_eq_getElem?_getD, Array.getElem?_toList, Array.getElem?_eq_getElem hk, getElem!_pos d' k hk]
      rfl
    have hj' : j < d'.size := by simpa using hj
    rw [e i (by omega), e j hj']
    exact this
  · rw [hw]
    refine aat_of_holdsK ?_ (holdsK_sortWorldK encA 2 w g 0 n l.toArray d' os hg hH hp.1)
    exact lt_sortWorldK encA 2 w g 0 n d' os hg
  · intro B w0 hB h0 hb
    rw [hw]
    exact below_sorted hb hB h0
theorem sort_none (cap : Nat) (p : Option Addr) (w : World) :
    Calls Tryz.prog 99 #[.slice p 0 cap, .func (.func 100) #[] #[]] w fun e w' => e = .returned (.tuple #[]) ∧ w' = w := by
  have hcon := AnyF.slices_SortFunc_none { sh_sort with } p cap (.func (.func 100) #[] #[]) w
  exact hcon
end Go.Proofs.YtonceehdmnkffaaGreatDoor
set_option linter.unusedSimpArgs false
namespace Go.Proofs.YtonceehdmnkffaaGreatDoor
open Go.RowKit Go.Sort Go.Shelf

theorem step_app_ams {ops : Array Oper} {o : Oper} {a : Act} {K : Act → World → Prop} {Q : Exit → Act → World → Prop} {E : Prop} (w : World) (hgd : o.guard = none) (s x : Operand)
    (ho : o.op = .call { callee := .builtin .append, args := #[s, x], argTypes := #[69, 69] })
    (B : Nat) (v : Value) (l : List Am) (hs : a.eval s = v) (hown : GrowA w B v l) (b off m c : Nat) (news : List Am) (hx : a.eval x = .slice (some ⟨b, off, none⟩) m c) (hsrc : AAt w b off news) (hm : news.length = m)
    (hb : (l.length + m) * 24 ≤ 140737488355328) (hB : B ≤ w.heap.size)
    (h : ∀ v' w', GrowA w' B v' (l ++ news) → w.grownBy w' v.ownBlock → Go.RowKit.Below B w w' → K (a.put o.dst v') w') :
    if Region.wanted o (yielded ops a.tmps) = true then Oper.wp Tryz.prog o a w K Q else E := by
  have hw : Region.wanted o (yielded ops a.tmps) = true := by simp [Region.wanted, hgd]
  rw [if_pos hw]
  obtain ⟨v', w', hr, h2, h3, h4⟩ := run_app_ams w o.type B v l hown b off m c news hsrc hm hb hB
  unfold Oper.wp execOp
  simp only [ho, resolve, invoke, builtin, Sem.run_bind, Sem.run_pure, Result.andThen_ok, List.map_toArray, List.map_cons, List.map_nil, hs, hx, hr]
  exact h v' w' h2 h3 h4
/-- What the first k lines came to, where it is not 0. -/
def yrsK (l : List Ln) (sums : List Int) : Nat → List Am
  | 0 => []
  | k + 1 => if nth sums k = 0 then yrsK l sums k else yrsK l sums k ++ [⟨(lnth l k).name, nth sums k⟩]
theorem yrsK_len (l : List Ln) (sums : List Int) : ∀ k, (yrsK l sums k).length ≤ k
  | 0 => Nat.le_refl _
  | k + 1 => by
    have := yrsK_len l sums k
    rw [yrsK]
    split
    · omega
    · simp; omega
/-- Amounts that rise by their names, those of the lines that did not come to 0. -/
def YrsRet (w : World) (p : Pl) (sums : List Int) (nl : Nat) (e : Ending) (w' : World) : Prop := ∃ (x : Option Addr) (c : Nat) (l' : List Am), e = .returned (.slice x l'.length c) ∧ l'.Perm (yrsK p.lns sums nl) ∧ (∀ i j, i < j → j < l'.length → ltS (anth l' j).name (anth l' i).name = false) ∧ CameA w' x l' ∧ Below w.heap.size w w'
set_option maxRecDepth 100000 in
set_option maxHeartbeats 2000000 in
theorem years_any (rb g : Nat) (p : Pl) (al at' ai : Option Addr) (nl nt ni cl ct ci : Nat) (seen year : Int) (sums : List Int) (w : World) (hr : RkAt w rb p al at' ai nl nt ni cl ct ci seen year (.slice (some ⟨g, 0, none⟩) nl nl)) (hg : Own w g sums) (hsl : sums.length = nl) (hc : CameL w al p.lns) (h1 : p.lns.length = nl) (hnl : nl ≤ 30) :
    Calls Tryz.prog 71 #[.pointer (some ⟨rb, 0, none⟩)] w fun e w' => YrsRet w p sums nl e w' := by
  have HR := Lib.hid hr
  have HC := Lib.hid hc
  have H1 := Lib.hid h1
  have HW := Lib.hid hg
  have HSL := Lib.hid hsl
  have HO := Lib.hid (fun h0 => hc.open h1 h0)
  have hrb := hr.pb.1
  have hgb := hg.1
  clear hr hc h1 hg hsl
  obtain ⟨_, x0, x1, x2, x3, x4, x5⟩ := HR.out.pb
  go_enter Tryz.func71, Tryz.ntmps71
  go_wp2_with fail
  clear x0 x1 x2 x3 x4 x5
  go_loopw [3, 12] (fun u i wr => ∃ k : Nat, k ≤ nl ∧ i = .int .i64 k ∧ GrowA wr w.heap.size u (yrsK p.lns sums k) ∧ Below w.heap.size w wr) (fun _ i _ => nl - (intOf i).toNat)
  case atStart => exact ⟨0, Nat.zero_le _, rfl, GrowA.nil _ _, Below.refl _ _⟩
  case round =>
    obtain ⟨k, hk, rfl, hgr, hb⟩ := hrel
    have HG := Lib.hid hgr
    have HB := Lib.hid hb
    clear hgr hb
    by_cases hlt : k < nl
    · have hlt' : (k : Int) < (nl : Int) := by omega
      obtain ⟨b, off, rfl, hcell⟩ := HO.out (by omega)
      obtain ⟨aj, cj, ⟨x0, x1, x2, x3, x4, x5⟩, hns, hkj⟩ := hcell wr HB.out k hlt
      obtain ⟨nm, hnm⟩ : ∃ nm, (lnth p.lns k).name = nm := ⟨_, rfl⟩
      rw [hnm] at x1
      have HNM := Lib.hid hnm
      obtain ⟨z, hz⟩ : ∃ z, nth sums k = z := ⟨_, rfl⟩
      have HZ := Lib.hid hz
      have HBJ := Lib.hid (kbelow_box wr (.cells #[.int .i64 (lnth p.lns k).kind, .string nm, .int .i64 (lnth p.lns k).ex.k, .int .i64 (lnth p.lns k).ex.n, .string (lnth p.lns k).ex.s, .slice aj (lnth p.lns k).ex.m cj] 66))
      have l1 := LBox.name wr (.int .i64 (lnth p.lns k).kind) (.string nm) (.int .i64 (lnth p.lns k).ex.k) (.int .i64 (lnth p.lns k).ex.n) (.string (lnth p.lns k).ex.s) (.slice aj (lnth p.lns k).ex.m cj) 66
      have HBX := Lib.hid (HB.out.trans (HBJ.out.mono HB.out.size))
      have HGX := Lib.hid (HG.out.below HBJ.out)
      have s8 := (HBX.out.cell (p := ⟨rb, 8, none⟩) hrb).trans HR.out.v
      have sk := (HBX.out.cell (p := ⟨g, k, none⟩) hgb).trans (HW.out.cell (j := k) (by rw [HSL.out]; exact hlt))
      rw [hz] at sk
      clear hcell hns hkj hnm hz
      by_cases hz0 : z = 0
      · have hzB : (z != 0) = false := by simp [hz0]
        have HZ0 := Lib.hid hz0
        clear hz0
        go_wp2_with fail
        go_roundw
        case rel => exact ⟨k + 1, by omega, by go_num, by rw [yrsK, if_pos (HZ.out.trans HZ0.out)]; exact HGX.out, HBX.out⟩
        case measure => simp [intOf]; omega
      · have hzB : (z != 0) = true := by simp [hz0]
        have HZ0 := Lib.hid hz0
        clear hz0
        go_wp2_with fail
        generalize hX : (wr.alloc (.cells #[.int .i64 (lnth p.lns k).kind, .string nm, .int .i64 (lnth p.lns k).ex.k, .int .i64 (lnth p.lns k).ex.n, .string (lnth p.lns k).ex.s, .slice aj (lnth p.lns k).ex.m cj] 66)) = X at *
        have HYB := Lib.hid (kbelow_dN (kbelow_box X (.cells #[.string nm, .int .i64 z] 72)) 1)
        have HGY := Lib.hid (HGX.out.below HYB.out)
        have HBY := Lib.hid (HBX.out.trans (HYB.out.mono HBX.out.size))
        have HAB : Hid (AAt ((X.alloc (.cells #[.string nm, .int .i64 z] 72)).drew) X.heap.size 0 [⟨nm, z⟩]) := aat_box X nm z
        have e1 := (HYB.out.cell (p := ⟨wr.heap.size, 1, none⟩) (blt_of_cell l1)).trans l1
        have e8 := (HYB.out.cell (p := ⟨rb, 8, none⟩) (blt_of_cell s8)).trans s8
        have ek := (HYB.out.cell (p := ⟨g, k, none⟩) (blt_of_cell sk)).trans sk
        clear x0 x1 x2 x3 x4 x5
        go_region_held_law (fun w' => w'.cell? ⟨wr.heap.size, 1, none⟩ = some (.string nm) ∧ w'.cell? ⟨rb, 8, none⟩ = some (.slice (some ⟨g, 0, none⟩) nl nl) ∧ w'.cell? ⟨g, k, none⟩ = some (.int .i64 z)) (go_keep)
          (first
            | (refine step_app_ams _ rfl (.tmp 25) (.tmp 36) rfl w.heap.size _ (yrsK p.lns sums k) (by simp [Act.eval]) HGY.out X.heap.size 0 1 1 [⟨nm, z⟩] (by simp [Act.eval]) HAB.out rfl (by have := yrsK_len p.lns sums k; omega) HBY.out.size ?_
               intro v6 w6 hg6 hr6 hb6
               have HG6 := Lib.hid hg6
               have HB6 := Lib.hid (HBY.out.trans hb6)
               have t1 := hr6.cell (a := ⟨wr.heap.size, 1, none⟩) (v := .string nm) e1 (fun e => by have h9 : wr.heap.size < wr.heap.size := (HG.out.lt _ e.symm).2; omega)
               have t8 := (hb6.cell (p := ⟨rb, 8, none⟩) hrb).trans e8
               have tk := (hb6.cell (p := ⟨g, k, none⟩) hgb).trans ek
               clear hg6 hr6 hb6))
        go_wp2_with fail
        go_roundw
        case rel => exact ⟨k + 1, by omega, by go_num, by rw [yrsK, if_neg (by rw [HZ.out]; exact HZ0.out), HNM.out, HZ.out]; exact HG6.out, HB6.out⟩
        case measure => simp [intOf]; omega
    · obtain rfl : k = nl := by omega
      have hlt' : decide ((k : Int) < (k : Int)) = false := decide_eq_false (by omega)
      have hlen := yrsK_len p.lns sums k
      rcases HG.out.formK with ⟨hv, hl⟩ | ⟨gg, cc, hv, hBg, hoat, hH⟩
      · have HL0 := Lib.hid hl
        subst hv
        clear hl
        go_wp2_with (first | (go_at_call 99; refine (sort_none _ _ _).mono ?_; rintro e w' ⟨rfl, h'⟩; subst w'))
        go_ret
        exact ⟨none, 0, [], rfl, by rw [HL0.out], fun i j _ hj => absurd hj (Nat.not_lt_zero _), .inl rfl, HB.out⟩
      · have HH := Lib.hid hH
        have HGL := Lib.hid hoat.1
        have HBG := Lib.hid hBg
        subst hv
        obtain ⟨L, hL⟩ : ∃ L, yrsK p.lns sums k = L := ⟨_, rfl⟩
        rw [hL] at HH hlen ⊢
        have HLL := Lib.hid hL
        clear hoat hH hBg HG hL
        obtain ⟨m, hm⟩ : ∃ m, L.length = m := ⟨_, rfl⟩
        have HMM := Lib.hid hm
        rw [hm] at hlen
        have hcon := sort_any gg cc L wr HH.out HGL.out (by omega)
        rw [hm] at hcon ⊢
        have HCON := Lib.hid hcon
        clear hcon hm
        go_wp2_with (first | (go_at_call 99; refine HCON.out.mono ?_; rintro e w' ⟨rfl, hsrt⟩))
        go_ret
        obtain ⟨l', hp, hs, hat', hbel⟩ := hsrt
        have hlen' : l'.length = m := hp.length_eq.trans HMM.out
        exact ⟨some ⟨gg, 0, none⟩, cc, l', by rw [hlen']; rfl, by rw [HLL.out]; exact hp, hs, .inr ⟨gg, 0, rfl, hat'⟩, hbel _ _ HBG.out (Nat.le_refl _) HB.out⟩
end Go.Proofs.YtonceehdmnkffaaGreatDoor
