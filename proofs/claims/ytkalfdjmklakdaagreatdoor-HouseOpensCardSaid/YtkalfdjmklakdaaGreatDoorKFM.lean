/-
  A row of ints of the call's own that is appended to, one int at a time: what becomes of it, and that two such rows stay apart. No condition beyond those of each theorem.
-/
import Derived.Test.YtkalfdjmklakdaaGreatDoorKA
import Derived.ArgAppend
namespace Go.Proofs.YtkalfdjmklakdaaGreatDoor
open Go.RowKit
theorem info_i : (Tryz.prog.info? 3).map (fun i => (i.zero, i.size, i.bytes)) = some (some (.int .i64 0), 1, 8) := by kernel_rfl
def Grow (w : World) (B : Nat) (v : Value) (l : List Int) : Prop := w.ownsRow B 3 1 v l.length (l.map (Value.int .i64))
def Apart (v u : Value) : Prop := v.ownBlock = none ∨ u.ownBlock = none ∨ v.ownBlock ≠ u.ownBlock
theorem Grow.nil (w : World) (B : Nat) : Grow w B (.slice none 0 0) [] := World.ownsRow_nil _ _ _ _
theorem Grow.alloc {w : World} {B : Nat} {v : Value} {l : List Int} (h : Grow w B v l) (o : Obj) : Grow (w.alloc o) B v l := World.ownsRow.alloc h o
theorem Grow.drewN {w : World} {B : Nat} {v : Value} {l : List Int} (h : Grow w B v l) (k : Nat) : Grow (w.drewN k) B v l := h
theorem Grow.lt {w : World} {B : Nat} {v : Value} {l : List Int} (h : Grow w B v l) : ∀ k, v.ownBlock = some k → B ≤ k ∧ k < w.heap.size := World.ownsRow.lt h
theorem Grow.kept {w w' : World} {B : Nat} {v u : Value} {l : List Int} (h : Grow w B v l) (hg : w.grownBy w' u.ownBlock) (ha : Apart v u) : Grow w' B v l := by
 rcases ha with ha | ha | ha
 ·exact World.ownsRow.kept h hg (.inl ha)
 ·cases hv : v.ownBlock with
  | none => exact World.ownsRow.kept h hg (.inl hv)
  | some k => exact World.ownsRow.kept h hg (.inr (by rw [hv, ha]; exact Option.some_ne_none k))
 ·exact World.ownsRow.kept h hg (.inr ha)
theorem Grow.own {w : World} {B : Nat} {v : Value} {l : List Int} (h : Grow w B v l) (h0 : 0 < l.length) :
 ∃ g c, v = .slice (some ⟨g, 0, none⟩) l.length c ∧ B ≤ g ∧ Own w g l := by
 have hh := h
 obtain ⟨_, h2⟩ := h
 rcases h2 with ⟨_, h2⟩ | ⟨g, c, cur, rfl, hg, hb, hc, hm, hs, ht⟩
 ·omega
 ·refine ⟨g, c, rfl, hg, (Grow.lt hh g rfl).2, fun j hj => ⟨?_, World.ownsRow.frozenAt hh j⟩⟩
  have := World.ownsRow.cellAt hh j (by omega)
  rw [this]
  simp [nth, List.getD_eq_getElem?_getD, hj]
theorem wpList_app {ops : Array Oper} {rest : List Oper} {o : Oper} {a : Act} {Q : Exit → Act → World → Prop} (w : World) (hgd : o.guard = none) (s x : Operand)
 (ho : o.op = .call { callee := .builtin .append, args := #[s, x], argTypes := #[46, 46] })
 (B : Nat) (v : Value) (l : List Int) (hs : a.eval s = v) (hown : Grow w B v l) (ad : Addr) (c : Nat) (z : Int) (hx : a.eval x = .slice (some ad) 1 c) (hz : w.cell? ad = some (.int .i64 z))
 (hl : l.length ≤ 1000000000) (hB : B ≤ w.heap.size)
 (h : ∀ v' w', Grow w' B v' (l ++ [z]) → w.grownBy w' v.ownBlock → (v'.ownBlock = v.ownBlock ∨ ∃ g, v'.ownBlock = some g ∧ w.heap.size ≤ g) → (∃ g c', v' = .slice (some ⟨g, 0, none⟩) (l.length + 1) c') → wpList Tryz.prog ops Q rest (a.put o.dst v') w') :
 wpList Tryz.prog ops Q (o :: rest) a w := by
 obtain ⟨i0, hi, hz0, hz1, hz2⟩ := info_parts info_i
 have hc : ∀ j u, [Value.int .i64 z][j]? = some u → w.cell? (ad.add j) = some u := by
  intro j u hj
  match j, hj with
  | 0, hj => simp at hj; subst hj; simpa [Addr.add] using hz
 have h1c : ∀ u ∈ [Value.int .i64 z], u.oneCell' = true := by intro u hu; simp at hu; subst hu; rfl
 have hh := hown
 obtain ⟨_, h2⟩ := hown
 have fin : ∀ v' w', w'.ownsRow w.heap.size 3 1 v' (l.length + 1) (l.map (Value.int .i64) ++ [.int .i64 z]) → w.grownBy w' none → wpList Tryz.prog ops Q rest (a.put o.dst v') w' := by
  intro v' w' ho' hg
  have hg' : Grow w' w.heap.size v' (l ++ [z]) := by unfold Grow; simpa using ho'
  have hgB : Grow w' B v' (l ++ [z]) := by
   obtain ⟨q1, q2⟩ := hg'
   refine ⟨q1, q2.imp id ?_⟩
   rintro ⟨g, cap, cur, e1, e2, r⟩
   exact ⟨g, cap, cur, e1, by omega, r⟩
  obtain ⟨g, c', e, hge, _⟩ := Grow.own hg' (by simp)
  refine h v' w' hgB ⟨hg.os, hg.tape, hg.output, hg.size, fun k hk _ => hg.block k hk (by simp)⟩ (.inr ⟨g, by rw [e]; rfl, hge⟩) ⟨g, c', by rw [e]; simp⟩
 rcases h2 with ⟨rfl, h2⟩ | ⟨g, cap, cur, rfl, hg, hb, hcap, hm, hsz, ht⟩
 ·have hln : l = [] := List.eq_nil_of_length_eq_zero (by omega)
  subst hln
  exact wpList_append_grows w hgd s x 46 ho 3 i0 (.int .i64 0) 1 8 Tryz.underlying46 hi hz0 hz1 hz2 rfl (by decide) none 0 0 [] hs (fun _ => ⟨rfl, rfl⟩) rfl (fun b hb => by cases hb) ad 1 c [.int .i64 z] hx rfl hc h1c (by omega) (by unfold maxLen; omega) (by omega) (by simpa using fin)
 ·by_cases hr : l.length + 1 ≤ cap
  ·refine wpList_append_fits w hgd s x 46 ho B 3 i0 1 Tryz.underlying46 hi hz1 g l.length cap (l.map (Value.int .i64)) hs hh ad 1 c [.int .i64 z] hx rfl hc h1c hr ?_
   intro w' ho' hg'
   exact h _ w' (by unfold Grow; simpa using ho') hg' (.inl rfl) ⟨g, cap, rfl⟩
  ·have hcell : ∀ b, (some (⟨g, 0, none⟩ : Addr)) = some b → ∀ j u, (l.map (Value.int .i64))[j]? = some u → w.cell? (b.add j) = some u := by
    intro b hb j u hj
    cases hb
    exact World.ownsRow.cells hh rfl j u hj
   exact wpList_append_grows w hgd s x 46 ho 3 i0 (.int .i64 0) 1 8 Tryz.underlying46 hi hz0 hz1 hz2 rfl (by decide) (some ⟨g, 0, none⟩) l.length cap (l.map (Value.int .i64)) hs (fun e => by cases e) (by simp) hcell ad 1 c [.int .i64 z] hx rfl hc h1c (by omega) (by unfold maxLen; omega) (by omega) fin
theorem Apart.app {w : World} {B : Nat} {v v' u : Value} {l : List Int} (ha : Apart u v) (hu : Grow w B u l) (h : v'.ownBlock = v.ownBlock ∨ ∃ g, v'.ownBlock = some g ∧ w.heap.size ≤ g) : Apart u v' := by
 unfold Apart at *
 rcases h with h | ⟨g, h, hg⟩
 ·rw [h]; exact ha
 ·rw [h]
  cases hv : u.ownBlock with
  | none => exact .inl rfl
  | some k =>
    right; right
    have := Grow.lt hu k hv
    intro e
    cases e
    omega
theorem Apart.symm {v u : Value} (h : Apart v u) : Apart u v := by
 unfold Apart at *
 rcases h with h | h | h
 ·exact .inr (.inl h)
 ·exact .inl h
 ·exact .inr (.inr fun e => h e.symm)
theorem Apart.ne {g k : Nat} {n c m d : Nat} (h : Apart (.slice (some ⟨g, 0, none⟩) n c) (.slice (some ⟨k, 0, none⟩) m d)) : g ≠ k := by
 rintro rfl
 rcases h with h | h | h
 ·cases h
 ·cases h
 ·exact h rfl
end Go.Proofs.YtkalfdjmklakdaaGreatDoor
