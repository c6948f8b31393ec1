/-
  Promise M: lists of totals of the call's own, that others are appended to.
-/
import Derived.Test.YtfamnlaignjhkaaOSort
import Derived.Maps.AppendAt
import Derived.Deep.RegionLaw
import Derived.Laws.IdiomCopy
import Derived.Laws.MakeOwn
import Derived.OwnWalk
import Derived.Lib.Walk
import Derived.Lib.SliceRun
namespace Go.Proofs.Ytfamnlaignjhkaa
open Go.RowKit Go.Sort

def cellsO : List Tt → List Value
  | [] => []
  | r :: l => encT r ++ cellsO l
theorem cellsO_length : ∀ l : List Tt, (cellsO l).length = l.length * 4
  | [] => rfl
  | r :: l => by
    rw [cellsO, List.length_append, cellsO_length l, List.length_cons]
    simp [encT]
    omega
theorem cellsO_append : ∀ l m : List Tt, cellsO (l ++ m) = cellsO l ++ cellsO m
  | [], _ => rfl
  | r :: l, m => by rw [List.cons_append, cellsO, cellsO, cellsO_append l m, List.append_assoc]
theorem onth_cons (r : Tt) (l : List Tt) (k : Nat) : onth (r :: l) (k + 1) = onth l k := rfl
theorem onth_zero (r : Tt) (l : List Tt) : onth (r :: l) 0 = r := rfl
theorem cellsO_get : ∀ (l : List Tt) (k c : Nat), k < l.length → c < 4 → (cellsO l)[k * 4 + c]? = (encT (onth l k))[c]?
  | [], k, c, hk, _ => absurd hk (by simp)
  | r :: l, 0, c, _, hc => by
    rw [cellsO, onth_zero, List.getElem?_append_left (by simp [encT]; omega), Nat.zero_mul, Nat.zero_add]
  | r :: l, k + 1, c, hk, hc => by
    rw [cellsO, onth_cons, List.getElem?_append_right (by simp [encT]; omega), ← cellsO_get l k c (by simpa using hk) hc]
    congr 1
    simp [encT]
    omega
theorem cellsO_one_cell : ∀ (l : List Tt) (u : Value), u ∈ cellsO l → u.oneCell' = true
  | [], u, h => by simp [cellsO] at h
  | r :: l, u, h => by
    rw [cellsO, List.mem_append] at h
    rcases h with h | h
    · exact encT_one r u h
    · exact cellsO_one_cell l u h
theorem holds_of_oat {w : World} {b off : Nat} {l : List Tt} (h : OAt w b off l) : ∀ j u, (cellsO l)[j]? = some u → w.cell? ⟨b, off + j, none⟩ = some u := by
  intro j u hu
  have hj : j < l.length * 4 := by
    rw [← cellsO_length]
    by_cases h' : j < (cellsO l).length
    · exact h'
    · rw [List.getElem?_eq_none (by omega)] at hu; cases hu
  have hk : j / 4 < l.length := by omega
  obtain ⟨h0, h1, h2, h3⟩ := h.2 (j / 4) hk
  have hje : j / 4 * 4 + j % 4 = j := by omega
  have hg := cellsO_get l (j / 4) (j % 4) hk (by omega)
  rw [hje, hu] at hg
  have hc : j % 4 = 0 ∨ j % 4 = 1 ∨ j % 4 = 2 ∨ j % 4 = 3 := by omega
  rcases hc with hc | hc | hc | hc <;> rw [hc] at hg hje <;> simp only [encT, List.getElem?_cons_zero, List.getElem?_cons_succ, Option.some.injEq] at hg <;> subst hg
  · rw [show off + j = off + j / 4 * 4 from by omega]; exact h0
  · rw [show off + j = off + j / 4 * 4 + 1 from by omega]; exact h1
  · rw [show off + j = off + j / 4 * 4 + 2 from by omega]; exact h2
  · rw [show off + j = off + j / 4 * 4 + 3 from by omega]; exact h3
theorem tt_info : (Try.prog.info? 50).map (fun i => (i.zero, i.size, i.bytes)) = some (some (.agg #[.int .i64 0, .string ⟨#[]⟩, .int .i64 0, .int .i64 0]), 4, 40) := by kernel_rfl
/-- The slice v, nil or of the call's own from block B on, holds the totals l. -/
def GrowO (w : World) (B : Nat) (v : Value) (l : List Tt) : Prop := w.ownsRow B 50 4 v l.length (cellsO l)
theorem GrowO.nil (w : World) (B : Nat) : GrowO w B (.slice none 0 0) [] := World.ownsRow_nil _ _ _ _
theorem GrowO.made (w : World) {B : Nat} (hB : B ≤ w.heap.size) : GrowO (w.alloc (.cells #[] 50)) B (.slice (some ⟨w.heap.size, 0, none⟩) 0 0) [] :=
  World.ownsRow_made (w := w) #[] 0 hB (Nat.zero_le _) rfl
theorem GrowO.alloc {w : World} {B : Nat} {v : Value} {l : List Tt} (h : GrowO w B v l) (o : Obj) : GrowO (w.alloc o) B v l := World.ownsRow.alloc h o
theorem GrowO.drewN {w : World} {B : Nat} {v : Value} {l : List Tt} (h : GrowO w B v l) (k : Nat) : GrowO (w.drewN k) B v l := h
theorem GrowO.lt {w : World} {B : Nat} {v : Value} {l : List Tt} (h : GrowO w B v l) : ∀ k, v.ownBlock = some k → B ≤ k ∧ k < w.heap.size := World.ownsRow.lt h
theorem GrowO.kept {w w' : World} {B : Nat} {v : Value} {l : List Tt} {row : Option Nat} (h : GrowO w B v l) (hg : w.grownBy w' row) (hr : ∀ r, row = some r → r < B) : GrowO w' B v l := by
  refine World.ownsRow.kept h hg ?_
  cases hv : v.ownBlock with
  | none => exact .inl rfl
  | some k =>
    refine .inr (fun e => ?_)
    have := hr k e.symm
    have := (h.lt k hv).1
    omega
theorem GrowO.below {w w' : World} {B : Nat} {v : Value} {l : List Tt} (h : GrowO w B v l) (hb : Go.RowKit.Below w.heap.size w w') : GrowO w' B v l := by
  refine World.ownsRow.kept (row := none) h ⟨hb.os, hb.tape, hb.output, hb.size, fun k hk _ => hb.block k hk⟩ ?_
  cases v.ownBlock with
  | none => exact .inl rfl
  | some k => exact .inr (Option.some_ne_none k)
theorem GrowO.form {w : World} {B : Nat} {v : Value} {l : List Tt} (h : GrowO w B v l) : (v = .slice none 0 0 ∧ l = []) ∨ ∃ g c, v = .slice (some ⟨g, 0, none⟩) l.length c ∧ B ≤ g ∧ OAt w g 0 l ∧ HoldsK encT 4 w g 0 l.toArray := by
  have hh := h
  rcases h.2 with ⟨h1, h2⟩ | ⟨g, c, cur, h1, h2, hgc, _⟩
  · exact .inl ⟨h1, List.eq_nil_of_length_eq_zero h2⟩
  · subst h1
    have key : ∀ j, j < l.length → ∀ c, c < 4 → ∀ u, (encT (onth l j))[c]? = some u → w.cell? ⟨g, j * 4 + c, none⟩ = some u := fun j hj c hc u hu => by
      have := World.ownsRow.cells hh (g := g) rfl (j * 4 + c) u ((cellsO_get l j c hj hc).trans hu)
      rwa [Addr.add_lit, Nat.zero_add] at this
    refine .inr ⟨g, c, rfl, h2, ⟨(GrowO.lt hh g rfl).2, fun j hj => ?_⟩, ?_⟩
    · rw [Nat.zero_add]
      exact ⟨key j hj 0 (by omega) _ rfl, key j hj 1 (by omega) _ rfl, key j hj 2 (by omega) _ rfl, key j hj 3 (by omega) _ rfl⟩
    · intro t ht
      have ht' : t < l.length * 4 := by simpa using ht
      have hk : t / 4 < l.length := by omega
      refine ⟨?_, by simp [World.frozen?, hgc]⟩
      rw [get_flatK _ _ _ _ (by simpa using ht')]
      have e : l.toArray[t / 4]! = onth l (t / 4) := by
        rw [getElem!_pos l.toArray (t / 4) (by simpa using hk)]
        simp [onth, List.getD_eq_getElem?_getD, hk]
      rw [e]
      have := key (t / 4) hk (t % 4) (by omega) ((encT (onth l (t / 4)))[t % 4]!) (by
        have hl : t % 4 < (encT (onth l (t / 4))).length := by simp [encT]; omega
        rw [List.getElem?_eq_getElem hl, getElem!_pos (encT (onth l (t / 4))) (t % 4) hl])
      rw [show t / 4 * 4 + t % 4 = t by omega] at this
      simpa using this
theorem GrowO.slice {w : World} {B : Nat} {v : Value} {l : List Tt} (h : GrowO w B v l) : ∃ x c, v = .slice x l.length c ∧ CameO w x l := by
  rcases h.form with ⟨h1, h2⟩ | ⟨g, c, h1, _, h3, _⟩
  · subst h2; exact ⟨none, 0, h1, .inl rfl⟩
  · exact ⟨_, c, h1, .inr ⟨g, 0, rfl, h3⟩⟩
theorem run_app_tts (w : World) (ty : TypeId) (B : Nat) (v : Value) (l : List Tt) (hown : GrowO w B v l) (b off m c : Nat) (news : List Tt) (hsrc : OAt w b off news) (hm : news.length = m)
    (hb : (l.length + m) * 40 ≤ 140737488355328) (hB : B ≤ w.heap.size) :
    ∃ v' w', (Builtin.append_ #[22, 22] ty #[v, .slice (some ⟨b, off, none⟩) m c]).run Try.prog w = .ok v' w' ∧ GrowO w' B v' (l ++ news) ∧ w.grownBy w' v.ownBlock ∧ Go.RowKit.Below B w w' := by
  obtain ⟨i0, hi, hz0, hz1, hz2⟩ := info_parts tt_info
  have hnews : ∀ j u, (cellsO news)[j]? = some u → w.cell? ((⟨b, off, none⟩ : Addr).add j) = some u := by
    intro j u hu
    rw [Addr.add_lit]
    exact holds_of_oat hsrc j u hu
  obtain ⟨v', w', hr, h2, h3, _, h5⟩ := run_append_own_at (P := Try.prog) w B 22 ty 50 i0 _ 4 40 Try.underlying22 hi hz0 hz1 hz2 rfl (by decide) v l.length (cellsO l) hown ⟨b, off, none⟩ m c (cellsO news) (by rw [cellsO_length, hm]) hnews (cellsO_one_cell news) (by unfold maxLen; omega) hb hB
  refine ⟨v', w', hr, ?_, h3, (Below.refl B w).grown h3 hB fun k hk => (GrowO.lt hown k hk).1⟩
  unfold GrowO
  rw [List.length_append, hm, cellsO_append]
  exact h2
/-- 'append(v, src...)', totals. -/
theorem wpList_app_tts {ops : Array Oper} {rest : List Oper} {o : Oper} {a : Act} {Q : Exit → Act → World → Prop} (w : World) (hgd : o.guard = none) (s x : Operand)
    (ho : o.op = .call { callee := .builtin .append, args := #[s, x], argTypes := #[22, 22] })
    (B : Nat) (v : Value) (l : List Tt) (hs : a.eval s = v) (hown : GrowO w B v l) (b off m c : Nat) (news : List Tt) (hx : a.eval x = .slice (some ⟨b, off, none⟩) m c) (hsrc : OAt w b off news) (hm : news.length = m)
    (hb : (l.length + m) * 40 ≤ 140737488355328) (hB : B ≤ w.heap.size)
    (h : ∀ v' w', GrowO w' B v' (l ++ news) → w.grownBy w' v.ownBlock → Go.RowKit.Below B w w' → wpList Try.prog ops Q rest (a.put o.dst v') w') :
    wpList Try.prog ops Q (o :: rest) a w := by
  obtain ⟨v', w', hr, h2, h3, h4⟩ := run_app_tts w o.type B v l hown b off m c news hsrc hm hb hB
  refine wpList_plain hgd fun _ hK => ?_
  unfold Oper.wp execOp
  simp only [ho, resolve, invoke, builtin, Sem.run_bind, Sem.run_pure, Result.andThen_ok, List.map_toArray, List.map_cons, List.map_nil, hs, hx, hr]
  exact hK _ _ (h v' w' h2 h3 h4)
end Go.Proofs.Ytfamnlaignjhkaa
