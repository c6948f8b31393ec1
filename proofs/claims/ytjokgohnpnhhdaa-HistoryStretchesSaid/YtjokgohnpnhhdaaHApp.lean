/-
  A list of rows of the call's own that other rows are appended to: what becomes of it, at a step of a region that draws its order, or in the text's order.
-/
import Derived.Test.YtjokgohnpnhhdaaHPut
import Derived.Maps.AppendAt
import Derived.Deep.RegionLaw
namespace Go.Proofs.Ytjokgohnpnhhdaa
open Go.RowKit

/-- The slice v, nil or of the call's own from block B on, holds the rows l. -/
def GrowR (w : World) (B : Nat) (v : Value) (l : List Rw) : Prop := w.ownsRow B 24 4 v l.length (cellsR l)
theorem GrowR.nil (w : World) (B : Nat) : GrowR w B (.slice none 0 0) [] := World.ownsRow_nil _ _ _ _
theorem GrowR.made (w : World) {B : Nat} (hB : B ≤ w.heap.size) : GrowR (w.alloc (.cells #[] 24)) B (.slice (some ⟨w.heap.size, 0, none⟩) 0 0) [] :=
  World.ownsRow_made (w := w) #[] 0 hB (Nat.zero_le _) rfl
theorem GrowR.alloc {w : World} {B : Nat} {v : Value} {l : List Rw} (h : GrowR w B v l) (o : Obj) : GrowR (w.alloc o) B v l := World.ownsRow.alloc h o
theorem GrowR.drew {w : World} {B : Nat} {v : Value} {l : List Rw} (h : GrowR w B v l) : GrowR w.drew B v l := h
theorem GrowR.lt {w : World} {B : Nat} {v : Value} {l : List Rw} (h : GrowR w B v l) : ∀ k, v.ownBlock = some k → B ≤ k ∧ k < w.heap.size := World.ownsRow.lt h
/-- What it looks like. -/
theorem GrowR.form {w : World} {B : Nat} {v : Value} {l : List Rw} (h : GrowR w B v l) : (v = .slice none 0 0 ∧ l = []) ∨ ∃ g c, v = .slice (some ⟨g, 0, none⟩) l.length c ∧ B ≤ g ∧ RAt w g 0 l := by
  have hh := h
  rcases h.2 with ⟨h1, h2⟩ | ⟨g, c, cur, h1, h2, _⟩
  · exact .inl ⟨h1, List.eq_nil_of_length_eq_zero h2⟩
  · subst h1
    refine .inr ⟨g, c, rfl, h2, rat_of_holds (GrowR.lt hh g rfl).2 fun j u hu => ?_⟩
    have := World.ownsRow.cells hh (g := g) rfl j u hu
    rwa [Addr.add_lit] at this
theorem GrowR.came {w : World} {B : Nat} {v : Value} {l : List Rw} (h : GrowR w B v l) : ∃ a c, v = .slice a l.length c ∧ CameR w a l := by
  rcases h.form with ⟨h1, h2⟩ | ⟨g, c, h1, _, h3⟩
  · subst h2
    exact ⟨none, 0, h1, .inl rfl⟩
  · exact ⟨some ⟨g, 0, none⟩, c, h1, .inr ⟨g, 0, rfl, h3⟩⟩

theorem cameR_box (w : World) (f s v : Int) (g : Bool) : CameR (w.alloc (.cells #[.int .i64 f, .int .i64 s, .int .i64 v, .bool g] 24)) (some ⟨w.heap.size, 0, none⟩) [⟨f, s, v, g⟩] := by
  refine .inr ⟨_, _, rfl, by simp, fun j hj => ?_⟩
  obtain rfl : j = 0 := by simpa using hj
  refine ⟨?_, ?_, ?_, ?_⟩ <;> simp [rnth]
theorem CameR.alloc {w : World} {a : Option Addr} {l : List Rw} (h : CameR w a l) (o : Obj) : CameR (w.alloc o) a l := h.below ((Below.refl _ _).alloc (Nat.le_refl _) o)
theorem CameR.grown {w w' : World} {b : Nat} {l : List Rw} {row : Option Nat} (h : CameR w (some ⟨b, 0, none⟩) l) (hg : w.grownBy w' row) (hne : some b ≠ row) : CameR w' (some ⟨b, 0, none⟩) l := by
  rcases h with h | ⟨b', off, he, hr⟩
  · exact .inl h
  · cases he
    refine .inr ⟨_, _, rfl, Nat.lt_of_lt_of_le hr.1 hg.size, fun j hj => ?_⟩
    obtain ⟨h0, h1, h2, h3⟩ := hr.2 j hj
    exact ⟨hg.cell h0 hne, hg.cell h1 hne, hg.cell h2 hne, hg.cell h3 hne⟩
/-- 'append(v, src...)'. -/
theorem run_app_rows (w : World) (ty : TypeId) (B : Nat) (v : Value) (l : List Rw) (hown : GrowR w B v l) (src : Option Addr) (m c : Nat) (news : List Rw) (hsrc : CameR w src news) (hm : news.length = m)
    (hb : (l.length + m) * 32 ≤ 140737488355328) (hB : B ≤ w.heap.size) :
    ∃ v' w', (Builtin.append_ #[22, 22] ty #[v, .slice src m c]).run Try.prog w = .ok v' w' ∧ GrowR w' B v' (l ++ news) ∧ w.grownBy w' v.ownBlock ∧ (v'.ownBlock = v.ownBlock ∨ v'.ownBlock = some w.heap.size) := by
  obtain ⟨i0, hi, hz0, hz1, hz2⟩ := info_parts row_info
  cases src with
  | none =>
    have h0 : news.length = 0 := by
      rcases hsrc with h | ⟨b, off, he, _⟩
      · exact h
      · cases he
    have hn : news = [] := List.eq_nil_of_length_eq_zero h0
    subst hn
    obtain rfl : m = 0 := by omega
    refine ⟨v, w, ?_, by rw [List.append_nil]; exact hown, ⟨rfl, rfl, rfl, Nat.le_refl _, fun _ _ _ => rfl⟩, .inl rfl⟩
    rcases hown.2 with ⟨rfl, h2⟩ | ⟨g, cap, cur, rfl, h2, h3, h4, _⟩
    · simp [Builtin.append_, run_underlying Try.underlying22, sizeOf, typeInfo, hi, Builtin.lenOf, Builtin.firstCells]
    · simp [Builtin.append_, run_underlying Try.underlying22, sizeOf, typeInfo, hi, Builtin.lenOf, Builtin.firstCells, h4, storeCells]
  | some ad =>
    have hnews : ∀ j u, (cellsR news)[j]? = some u → w.cell? (ad.add j) = some u := by
      intro j u hu
      rcases hsrc with h | ⟨b, off, he, hr⟩
      · have : news = [] := List.eq_nil_of_length_eq_zero h
        subst this
        simp [cellsR] at hu
      · cases he
        rw [Addr.add_lit]
        exact holds_of_rat hr j u hu
    obtain ⟨v', w', h1, h2, h3, _, h5⟩ := run_append_own_at (P := Try.prog) w B 22 ty 24 i0 _ 4 32 Try.underlying22 hi hz0 hz1 hz2 rfl (by decide) v l.length (cellsR l) hown ad m c (cellsR news) (by rw [cellsR_length, hm]) hnews (cellsR_one_cell news) (by unfold maxLen; omega) hb hB
    refine ⟨v', w', h1, ?_, h3, h5⟩
    unfold GrowR
    rw [List.length_append, hm, cellsR_append]
    exact h2
theorem step_app_rows {ops : Array Oper} {o : Oper} {a : Act} {K : Act → World → Prop} {Q : Exit → Act → World → Prop} {E : Prop} (w : World) (hgd : o.guard = none) (s x : Operand)
    (ho : o.op = .call { callee := .builtin .append, args := #[s, x], argTypes := #[22, 22] })
    (B : Nat) (v : Value) (l : List Rw) (hs : a.eval s = v) (hown : GrowR w B v l) (src : Option Addr) (m c : Nat) (news : List Rw) (hx : a.eval x = .slice src m c) (hsrc : CameR w src news) (hm : news.length = m)
    (hb : (l.length + m) * 32 ≤ 140737488355328) (hB : B ≤ w.heap.size)
    (h : ∀ v' w', GrowR w' B v' (l ++ news) → Below B w w' → w.grownBy w' v.ownBlock → K (a.put o.dst v') w') :
    if Region.wanted o (yielded ops a.tmps) = true then Oper.wp Try.prog o a w K Q else E := by
  have hw : Region.wanted o (yielded ops a.tmps) = true := by simp [Region.wanted, hgd]
  rw [if_pos hw]
  obtain ⟨v', w', hr, h2, h3, h4⟩ := run_app_rows w o.type B v l hown src m c news hsrc hm hb hB
  unfold Oper.wp execOp
  simp only [ho, resolve, invoke, builtin, Sem.run_bind, Sem.run_pure, Result.andThen_ok, List.map_toArray, List.map_cons, List.map_nil, hs, hx, hr]
  exact h v' w' h2 ((Below.refl B w).grown h3 hB fun k hk => (GrowR.lt hown k hk).1) h3
end Go.Proofs.Ytjokgohnpnhhdaa
