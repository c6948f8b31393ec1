/-
  A list of stretches of the call's own that others are appended to. A stretch lies in memory as a row does (its To where a row's Seen lies, Some where Gone lies).
-/
import Derived.Test.YtjokgohnpnhhdaaHApp
import Derived.Maps.AppendAt
import Derived.Deep.RegionLaw
namespace Go.Proofs.Ytjokgohnpnhhdaa
open Go.RowKit

theorem st_info : (Try.prog.info? 40).map (fun i => (i.zero, i.size, i.bytes)) = some (some (.agg #[.int .i64 0, .int .i64 0, .int .i64 0, .bool false]), 4, 32) := by kernel_rfl
/-- The slice v, nil or of the call's own from block B on, holds the rows l. -/
def GrowS (w : World) (B : Nat) (v : Value) (l : List Rw) : Prop := w.ownsRow B 40 4 v l.length (cellsR l)
theorem GrowS.nil (w : World) (B : Nat) : GrowS w B (.slice none 0 0) [] := World.ownsRow_nil _ _ _ _
theorem GrowS.made (w : World) {B : Nat} (hB : B ≤ w.heap.size) : GrowS (w.alloc (.cells #[] 40)) B (.slice (some ⟨w.heap.size, 0, none⟩) 0 0) [] :=
  World.ownsRow_made (w := w) #[] 0 hB (Nat.zero_le _) rfl
theorem GrowS.alloc {w : World} {B : Nat} {v : Value} {l : List Rw} (h : GrowS w B v l) (o : Obj) : GrowS (w.alloc o) B v l := World.ownsRow.alloc h o
theorem GrowS.drew {w : World} {B : Nat} {v : Value} {l : List Rw} (h : GrowS w B v l) : GrowS w.drew B v l := h
theorem GrowS.lt {w : World} {B : Nat} {v : Value} {l : List Rw} (h : GrowS w B v l) : ∀ k, v.ownBlock = some k → B ≤ k ∧ k < w.heap.size := World.ownsRow.lt h
/-- What it looks like. -/
theorem GrowS.form {w : World} {B : Nat} {v : Value} {l : List Rw} (h : GrowS w B v l) : (v = .slice none 0 0 ∧ l = []) ∨ ∃ g c, v = .slice (some ⟨g, 0, none⟩) l.length c ∧ B ≤ g ∧ RAt w g 0 l := by
  have hh := h
  rcases h.2 with ⟨h1, h2⟩ | ⟨g, c, cur, h1, h2, _⟩
  · exact .inl ⟨h1, List.eq_nil_of_length_eq_zero h2⟩
  · subst h1
    refine .inr ⟨g, c, rfl, h2, rat_of_holds (GrowS.lt hh g rfl).2 fun j u hu => ?_⟩
    have := World.ownsRow.cells hh (g := g) rfl j u hu
    rwa [Addr.add_lit] at this
theorem GrowS.came {w : World} {B : Nat} {v : Value} {l : List Rw} (h : GrowS w B v l) : ∃ a c, v = .slice a l.length c ∧ CameR w a l := by
  rcases h.form with ⟨h1, h2⟩ | ⟨g, c, h1, _, h3⟩
  · subst h2
    exact ⟨none, 0, h1, .inl rfl⟩
  · exact ⟨some ⟨g, 0, none⟩, c, h1, .inr ⟨g, 0, rfl, h3⟩⟩

theorem cameS_box (w : World) (f s v : Int) (g : Bool) : CameR (w.alloc (.cells #[.int .i64 f, .int .i64 s, .int .i64 v, .bool g] 40)) (some ⟨w.heap.size, 0, none⟩) [⟨f, s, v, g⟩] := by
  refine .inr ⟨_, _, rfl, by simp, fun j hj => ?_⟩
  obtain rfl : j = 0 := by simpa using hj
  refine ⟨?_, ?_, ?_, ?_⟩ <;> simp [rnth]
/-- 'append(v, src...)'. -/
theorem run_app_sts (w : World) (ty : TypeId) (B : Nat) (v : Value) (l : List Rw) (hown : GrowS w B v l) (src : Option Addr) (m c : Nat) (news : List Rw) (hsrc : CameR w src news) (hm : news.length = m)
    (hb : (l.length + m) * 32 ≤ 140737488355328) (hB : B ≤ w.heap.size) :
    ∃ v' w', (Builtin.append_ #[31, 31] ty #[v, .slice src m c]).run Try.prog w = .ok v' w' ∧ GrowS w' B v' (l ++ news) ∧ w.grownBy w' v.ownBlock ∧ (v'.ownBlock = v.ownBlock ∨ v'.ownBlock = some w.heap.size) := by
  obtain ⟨i0, hi, hz0, hz1, hz2⟩ := info_parts st_info
  cases src with
  | none =>
    have h0 : news.length = 0 := by
      rcases hsrc with h | ⟨b, off, he, _⟩
      · exact h
      · cases he
    have hn : news = [] := List.eq_nil_of_length_eq_zero h0
    subst hn
    obtain rfl : m = 0 := by omega
    refine ⟨v, w, ?_, by rw [List.append_nil]; exact hown, ⟨rfl, rfl, rfl, Nat.le_refl _, fun _ _ _ => rfl⟩, .inl rfl⟩
    rcases hown.2 with ⟨rfl, h2⟩ | ⟨g, cap, cur, rfl, h2, h3, h4, _⟩
    · simp [Builtin.append_, run_underlying Try.underlying31, sizeOf, typeInfo, hi, Builtin.lenOf, Builtin.firstCells]
    · simp [Builtin.append_, run_underlying Try.underlying31, sizeOf, typeInfo, hi, Builtin.lenOf, Builtin.firstCells, h4, storeCells]
  | some ad =>
    have hnews : ∀ j u, (cellsR news)[j]? = some u → w.cell? (ad.add j) = some u := by
      intro j u hu
      rcases hsrc with h | ⟨b, off, he, hr⟩
      · have : news = [] := List.eq_nil_of_length_eq_zero h
        subst this
        simp [cellsR] at hu
      · cases he
        rw [Addr.add_lit]
        exact holds_of_rat hr j u hu
    obtain ⟨v', w', h1, h2, h3, _, h5⟩ := run_append_own_at (P := Try.prog) w B 31 ty 40 i0 _ 4 32 Try.underlying31 hi hz0 hz1 hz2 rfl (by decide) v l.length (cellsR l) hown ad m c (cellsR news) (by rw [cellsR_length, hm]) hnews (cellsR_one_cell news) (by unfold maxLen; omega) hb hB
    refine ⟨v', w', h1, ?_, h3, h5⟩
    unfold GrowS
    rw [List.length_append, hm, cellsR_append]
    exact h2
theorem wpList_app_sts {ops : Array Oper} {rest : List Oper} {o : Oper} {a : Act} {Q : Exit → Act → World → Prop} (w : World) (hgd : o.guard = none) (s x : Operand)
    (ho : o.op = .call { callee := .builtin .append, args := #[s, x], argTypes := #[31, 31] })
    (B : Nat) (v : Value) (l : List Rw) (hs : a.eval s = v) (hown : GrowS w B v l) (src : Option Addr) (m c : Nat) (news : List Rw) (hx : a.eval x = .slice src m c) (hsrc : CameR w src news) (hm : news.length = m)
    (hb : (l.length + m) * 32 ≤ 140737488355328) (hB : B ≤ w.heap.size)
    (h : ∀ v' w', GrowS w' B v' (l ++ news) → Below B w w' → wpList Try.prog ops Q rest (a.put o.dst v') w') :
    wpList Try.prog ops Q (o :: rest) a w := by
  obtain ⟨v', w', hr, h2, h3, h4⟩ := run_app_sts w o.type B v l hown src m c news hsrc hm hb hB
  refine wpList_plain hgd fun _ hK => ?_
  unfold Oper.wp execOp
  simp only [ho, resolve, invoke, builtin, Sem.run_bind, Sem.run_pure, Result.andThen_ok, List.map_toArray, List.map_cons, List.map_nil, hs, hx, hr]
  exact hK _ _ (h v' w' h2 ((Below.refl B w).grown h3 hB fun k hk => (GrowS.lt hown k hk).1))
end Go.Proofs.Ytjokgohnpnhhdaa
