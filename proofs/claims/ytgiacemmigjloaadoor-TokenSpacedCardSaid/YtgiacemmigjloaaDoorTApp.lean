/-
  Lists of tokens: how they lie in memory; a list of the call's own that a token is appended to.
-/
import Derived.Test.YtgiacemmigjloaaDoorTFirstW
import Derived.Maps.AppendAt
import Derived.Deep.RegionLaw
import Derived.Laws.IdiomCopy
import Derived.Laws.MakeOwn
import Derived.OwnWalk
namespace Go.Proofs.YtgiacemmigjloaaDoor
open Go.RowKit

/-- A token. -/
structure Tk where
  k : Int
  txt : ByteArray
  num : Int
  pt : Bool
  pos : Int
def tnth (l : List Tk) (j : Nat) : Tk := l.getD j ⟨0, ByteArray.empty, 0, false, 0⟩
def tkV (r : Tk) : List Value := [.int .i64 r.k, .string r.txt, .int .i64 r.num, .bool r.pt, .int .i64 r.pos]
def cellsT : List Tk → List Value
  | [] => []
  | r :: l => tkV r ++ cellsT l
theorem cellsT_length : ∀ l : List Tk, (cellsT l).length = l.length * 5
  | [] => rfl
  | r :: l => by
    rw [cellsT, List.length_append, cellsT_length l, List.length_cons]
    simp [tkV]
    omega
theorem cellsT_append : ∀ l m : List Tk, cellsT (l ++ m) = cellsT l ++ cellsT m
  | [], _ => rfl
  | r :: l, m => by rw [List.cons_append, cellsT, cellsT, cellsT_append l m, List.append_assoc]
theorem tnth_cons (r : Tk) (l : List Tk) (k : Nat) : tnth (r :: l) (k + 1) = tnth l k := rfl
theorem tnth_zero (r : Tk) (l : List Tk) : tnth (r :: l) 0 = r := rfl
theorem cellsT_get : ∀ (l : List Tk) (k c : Nat), k < l.length → c < 5 → (cellsT l)[k * 5 + c]? = (tkV (tnth l k))[c]?
  | [], k, c, hk, _ => absurd hk (by simp)
  | r :: l, 0, c, _, hc => by
    rw [cellsT, tnth_zero, List.getElem?_append_left (by simp [tkV]; omega), Nat.zero_mul, Nat.zero_add]
  | r :: l, k + 1, c, hk, hc => by
    rw [cellsT, tnth_cons, List.getElem?_append_right (by simp [tkV]; omega), ← cellsT_get l k c (by simpa using hk) hc]
    congr 1
    simp [tkV]
    omega
theorem cellsT_one_cell : ∀ (l : List Tk) (u : Value), u ∈ cellsT l → u.oneCell' = true
  | [], u, h => by simp [cellsT] at h
  | r :: l, u, h => by
    rw [cellsT, List.mem_append] at h
    rcases h with h | h
    · simp only [tkV, List.mem_cons, List.not_mem_nil, or_false] at h
      rcases h with rfl | rfl | rfl | rfl | rfl <;> rfl
    · exact cellsT_one_cell l u h
/-- A token's five cells. -/
def TkIs (w : World) (b o : Nat) (r : Tk) : Prop := w.cell? ⟨b, o, none⟩ = some (.int .i64 r.k) ∧ w.cell? ⟨b, o + 1, none⟩ = some (.string r.txt) ∧ w.cell? ⟨b, o + 2, none⟩ = some (.int .i64 r.num) ∧ w.cell? ⟨b, o + 3, none⟩ = some (.bool r.pt) ∧ w.cell? ⟨b, o + 4, none⟩ = some (.int .i64 r.pos)
/-- In the world w the cells of block b hold the tokens l, five cells a token. -/
def TAt (w : World) (b : Nat) (l : List Tk) : Prop := b < w.heap.size ∧ ∀ j, j < l.length → TkIs w b (j * 5) (tnth l j)
theorem TkIs.below {B : Nat} {w w' : World} {b o : Nat} {r : Tk} (h : TkIs w b o r) (hb : Below B w w') (hB : b < B) : TkIs w' b o r :=
  ⟨(hb.cell (p := ⟨b, o, none⟩) hB).trans h.1, (hb.cell (p := ⟨b, o + 1, none⟩) hB).trans h.2.1, (hb.cell (p := ⟨b, o + 2, none⟩) hB).trans h.2.2.1, (hb.cell (p := ⟨b, o + 3, none⟩) hB).trans h.2.2.2.1, (hb.cell (p := ⟨b, o + 4, none⟩) hB).trans h.2.2.2.2⟩
theorem TAt.below {B : Nat} {w w' : World} {b : Nat} {l : List Tk} (h : TAt w b l) (hb : Below B w w') (hB : b < B) : TAt w' b l :=
  ⟨Nat.lt_of_lt_of_le h.1 hb.size, fun j hj => (h.2 j hj).below hb hB⟩
theorem tok_info : (Tryd.prog.info? 32).map (fun i => (i.zero, i.size, i.bytes)) = some (some (.agg #[.int .i64 0, .string ByteArray.empty, .int .i64 0, .bool false, .int .i64 0]), 5, 48) := by kernel_rfl
/-- The slice v, nil or of the call's own from block B on, holds the tokens l. -/
def GrowT (w : World) (B : Nat) (v : Value) (l : List Tk) : Prop := w.ownsRow B 32 5 v l.length (cellsT l)
theorem GrowT.nil (w : World) (B : Nat) : GrowT w B (.slice none 0 0) [] := World.ownsRow_nil _ _ _ _
theorem GrowT.alloc {w : World} {B : Nat} {v : Value} {l : List Tk} (h : GrowT w B v l) (o : Obj) : GrowT (w.alloc o) B v l := World.ownsRow.alloc h o
theorem GrowT.lt {w : World} {B : Nat} {v : Value} {l : List Tk} (h : GrowT w B v l) : ∀ k, v.ownBlock = some k → B ≤ k ∧ k < w.heap.size := World.ownsRow.lt h
theorem GrowT.put {w : World} {B : Nat} {v : Value} {l : List Tk} (h : GrowT w B v l) {a : Addr} (ha : a.block < B) (u : Value) : GrowT (w.setCell a u) B v l := ownsRow_setCell_below h ha u
theorem GrowT.below {w w' : World} {B : Nat} {v : Value} {l : List Tk} (h : GrowT w B v l) (hb : Below w.heap.size w w') : GrowT w' B v l := by
  refine World.ownsRow.kept (row := none) h ⟨hb.os, hb.tape, hb.output, hb.size, fun k hk _ => hb.block k hk⟩ ?_
  cases v.ownBlock with
  | none => exact .inl rfl
  | some k => exact .inr (Option.some_ne_none k)
theorem GrowT.form {w : World} {B : Nat} {v : Value} {l : List Tk} (h : GrowT w B v l) : (v = .slice none 0 0 ∧ l = []) ∨ ∃ g c, v = .slice (some ⟨g, 0, none⟩) l.length c ∧ B ≤ g ∧ TAt w g l := by
  have hh := h
  rcases h.2 with ⟨h1, h2⟩ | ⟨g, c, cur, h1, h2, _⟩
  · exact .inl ⟨h1, List.eq_nil_of_length_eq_zero h2⟩
  · subst h1
    refine .inr ⟨g, c, rfl, h2, (GrowT.lt hh g rfl).2, fun j hj => ?_⟩
    have key : ∀ c, c < 5 → ∀ u, (tkV (tnth l j))[c]? = some u → w.cell? ⟨g, j * 5 + c, none⟩ = some u := fun c hc u hu => by
      have := World.ownsRow.cells hh (g := g) rfl (j * 5 + c) u ((cellsT_get l j c hj hc).trans hu)
      rwa [Addr.add_lit, Nat.zero_add] at this
    exact ⟨key 0 (by omega) _ rfl, key 1 (by omega) _ rfl, key 2 (by omega) _ rfl, key 3 (by omega) _ rfl, key 4 (by omega) _ rfl⟩
/-- 'append(v, t)', the token in a box of its own. -/
theorem run_app_tok (w : World) (ty : TypeId) (B : Nat) (v : Value) (l : List Tk) (hown : GrowT w B v l) (g c : Nat) (r : Tk) (hsrc : TkIs w g 0 r) (hb : (l.length + 1) * 48 ≤ 140737488355328) (hB : B ≤ w.heap.size) :
    ∃ v' w', (Builtin.append_ #[22, 22] ty #[v, .slice (some ⟨g, 0, none⟩) 1 c]).run Tryd.prog w = .ok v' w' ∧ GrowT w' B v' (l ++ [r]) ∧ w.grownBy w' v.ownBlock := by
  obtain ⟨i0, hi, hz0, hz1, hz2⟩ := info_parts tok_info
  have hnews : ∀ j u, (cellsT [r])[j]? = some u → w.cell? ((⟨g, 0, none⟩ : Addr).add j) = some u := by
    intro j u hu
    rw [Addr.add_lit, Nat.zero_add]
    have e : cellsT [r] = tkV r := by simp [cellsT]
    rw [e] at hu
    obtain ⟨h0, h1, h2, h3, h4⟩ := hsrc
    have hj : j < 5 := by
      by_cases h' : j < 5
      · exact h'
      · rw [List.getElem?_eq_none (by simp [tkV]; omega)] at hu; cases hu
    have hc : j = 0 ∨ j = 1 ∨ j = 2 ∨ j = 3 ∨ j = 4 := by omega
    rcases hc with rfl | rfl | rfl | rfl | rfl <;> simp only [tkV, List.getElem?_cons_zero, List.getElem?_cons_succ, Option.some.injEq] at hu <;> subst hu
    · exact h0
    · exact h1
    · exact h2
    · exact h3
    · exact h4
  obtain ⟨v', w', h1, h2, h3, _, h5⟩ := run_append_own_at (P := Tryd.prog) w B 22 ty 32 i0 _ 5 48 Tryd.underlying22 hi hz0 hz1 hz2 rfl (by decide) v l.length (cellsT l) hown ⟨g, 0, none⟩ 1 c (cellsT [r]) (by rw [cellsT_length]; rfl) hnews (cellsT_one_cell [r]) (by unfold maxLen; omega) hb hB
  refine ⟨v', w', h1, ?_, h3⟩
  unfold GrowT
  rw [List.length_append, cellsT_append]
  exact h2
theorem wpList_app_tok {ops : Array Oper} {rest : List Oper} {o : Oper} {a : Act} {Q : Exit → Act → World → Prop} (w : World) (hgd : o.guard = none) (s x : Operand)
    (ho : o.op = .call { callee := .builtin .append, args := #[s, x], argTypes := #[22, 22] })
    (B : Nat) (v : Value) (l : List Tk) (hs : a.eval s = v) (hown : GrowT w B v l) (g c : Nat) (r : Tk) (hx : a.eval x = .slice (some ⟨g, 0, none⟩) 1 c) (hsrc : TkIs w g 0 r)
    (hb : (l.length + 1) * 48 ≤ 140737488355328) (hB : B ≤ w.heap.size)
    (h : ∀ v' w', GrowT w' B v' (l ++ [r]) → Below B w w' → w.grownBy w' v.ownBlock → wpList Tryd.prog ops Q rest (a.put o.dst v') w') :
    wpList Tryd.prog ops Q (o :: rest) a w := by
  obtain ⟨v', w', hr, h2, h3⟩ := run_app_tok w o.type B v l hown g c r hsrc hb hB
  refine wpList_plain hgd fun _ hK => ?_
  unfold Oper.wp execOp
  simp only [ho, resolve, invoke, builtin, Sem.run_bind, Sem.run_pure, Result.andThen_ok, List.map_toArray, List.map_cons, List.map_nil, hs, hx, hr]
  exact hK _ _ (h v' w' h2 ((Below.refl B w).grown h3 hB fun k hk => (GrowT.lt hown k hk).1) h3)
end Go.Proofs.YtgiacemmigjloaaDoor
