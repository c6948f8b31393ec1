/-
  Lists of brackets, and of numbers, of the call's own, that others are appended to.
-/
import Derived.Test.YtmiijmgidbbmhaaKTop
import Derived.Maps.AppendAt
import Derived.Deep.RegionLaw
import Derived.Laws.IdiomCopy
import Derived.Laws.MakeOwn
import Derived.OwnWalk
import Derived.Lib.AppendZerosOnto
import Derived.Lib.Walk
import Derived.Lib.SliceRun
namespace Go.Proofs.Ytmiijmgidbbmhaa
open Go.RowKit

def bkV (r : Bk) : List Value := [.int .i64 r.frm, .int .i64 r.rate]
def cellsB : List Bk → List Value
  | [] => []
  | r :: l => bkV r ++ cellsB l
theorem cellsB_length : ∀ l : List Bk, (cellsB l).length = l.length * 2
  | [] => rfl
  | r :: l => by
    rw [cellsB, List.length_append, cellsB_length l, List.length_cons]
    simp [bkV]
    omega
theorem cellsB_append : ∀ l m : List Bk, cellsB (l ++ m) = cellsB l ++ cellsB m
  | [], _ => rfl
  | r :: l, m => by rw [List.cons_append, cellsB, cellsB, cellsB_append l m, List.append_assoc]
theorem bnth_cons (r : Bk) (l : List Bk) (k : Nat) : bnth (r :: l) (k + 1) = bnth l k := rfl
theorem bnth_zero (r : Bk) (l : List Bk) : bnth (r :: l) 0 = r := rfl
theorem cellsB_get : ∀ (l : List Bk) (k c : Nat), k < l.length → c < 2 → (cellsB l)[k * 2 + c]? = (bkV (bnth l k))[c]?
  | [], k, c, hk, _ => absurd hk (by simp)
  | r :: l, 0, c, _, hc => by
    rw [cellsB, bnth_zero, List.getElem?_append_left (by simp [bkV]; omega), Nat.zero_mul, Nat.zero_add]
  | r :: l, k + 1, c, hk, hc => by
    rw [cellsB, bnth_cons, List.getElem?_append_right (by simp [bkV]; omega), ← cellsB_get l k c (by simpa using hk) hc]
    congr 1
    simp [bkV]
    omega
theorem cellsB_one_cell : ∀ (l : List Bk) (u : Value), u ∈ cellsB l → u.oneCell' = true
  | [], u, h => by simp [cellsB] at h
  | r :: l, u, h => by
    rw [cellsB, List.mem_append] at h
    rcases h with h | h
    · simp only [bkV, List.mem_cons, List.not_mem_nil, or_false] at h
      rcases h with rfl | rfl <;> rfl
    · exact cellsB_one_cell l u h
theorem holds_of_bat {w : World} {b off : Nat} {l : List Bk} (h : BAt w b off l) : ∀ j u, (cellsB l)[j]? = some u → w.cell? ⟨b, off + j, none⟩ = some u := by
  intro j u hu
  have hj : j < l.length * 2 := by
    rw [← cellsB_length]
    by_cases h' : j < (cellsB l).length
    · exact h'
    · rw [List.getElem?_eq_none (by omega)] at hu; cases hu
  have hk : j / 2 < l.length := by omega
  obtain ⟨h0, h1⟩ := h.2 (j / 2) hk
  have hje : j / 2 * 2 + j % 2 = j := by omega
  have hg := cellsB_get l (j / 2) (j % 2) hk (by omega)
  rw [hje, hu] at hg
  have hc : j % 2 = 0 ∨ j % 2 = 1 := by omega
  rcases hc with hc | hc <;> rw [hc] at hg hje <;> simp only [bkV, List.getElem?_cons_zero, List.getElem?_cons_succ, Option.some.injEq] at hg <;> subst hg
  · rw [show off + j = off + j / 2 * 2 from by omega]; exact h0
  · rw [show off + j = off + j / 2 * 2 + 1 from by omega]; exact h1
theorem bk_info : (Try.prog.info? 43).map (fun i => (i.zero, i.size, i.bytes)) = some (some (.agg #[.int .i64 0, .int .i64 0]), 2, 16) := by kernel_rfl
theorem int_info : (Try.prog.info? 3).map (fun i => (i.zero, i.size, i.bytes)) = some (some (.int .i64 0), 1, 8) := by kernel_rfl
/-- The slice v, nil or of the call's own from block B on, holds the brackets l. -/
def GrowB (w : World) (B : Nat) (v : Value) (l : List Bk) : Prop := w.ownsRow B 43 2 v l.length (cellsB l)
theorem GrowB.alloc {w : World} {B : Nat} {v : Value} {l : List Bk} (h : GrowB w B v l) (o : Obj) : GrowB (w.alloc o) B v l := World.ownsRow.alloc h o
theorem GrowB.lt {w : World} {B : Nat} {v : Value} {l : List Bk} (h : GrowB w B v l) : ∀ k, v.ownBlock = some k → B ≤ k ∧ k < w.heap.size := World.ownsRow.lt h
theorem GrowB.below {w w' : World} {B : Nat} {v : Value} {l : List Bk} (h : GrowB w B v l) (hb : Below w.heap.size w w') : GrowB w' B v l := by
  refine World.ownsRow.kept (row := none) h ⟨hb.os, hb.tape, hb.output, hb.size, fun k hk _ => hb.block k hk⟩ ?_
  cases v.ownBlock with
  | none => exact .inl rfl
  | some k => exact .inr (Option.some_ne_none k)
theorem GrowB.mono {w : World} {B B' : Nat} {v : Value} {l : List Bk} (h : GrowB w B v l) (hB : B' ≤ B) : GrowB w B' v l := by
  refine ⟨h.1, ?_⟩
  rcases h.2 with hn | ⟨g, cap, cur, h1, h2, rest⟩
  · exact .inl hn
  · exact .inr ⟨g, cap, cur, h1, Nat.le_trans hB h2, rest⟩
theorem GrowB.form {w : World} {B : Nat} {v : Value} {l : List Bk} (h : GrowB w B v l) : (v = .slice none 0 0 ∧ l = []) ∨ ∃ g c, v = .slice (some ⟨g, 0, none⟩) l.length c ∧ B ≤ g ∧ BAt w g 0 l := by
  have hh := h
  rcases h.2 with ⟨h1, h2⟩ | ⟨g, c, cur, h1, h2, _⟩
  · exact .inl ⟨h1, List.eq_nil_of_length_eq_zero h2⟩
  · subst h1
    refine .inr ⟨g, c, rfl, h2, (GrowB.lt hh g rfl).2, fun j hj => ?_⟩
    have key : ∀ c, c < 2 → ∀ u, (bkV (bnth l j))[c]? = some u → w.cell? ⟨g, j * 2 + c, none⟩ = some u := fun c hc u hu => by
      have := World.ownsRow.cells hh (g := g) rfl (j * 2 + c) u ((cellsB_get l j c hj hc).trans hu)
      rwa [Addr.add_lit, Nat.zero_add] at this
    rw [Nat.zero_add]
    exact ⟨key 0 (by omega) _ rfl, key 1 (by omega) _ rfl⟩
theorem GrowB.slice {w : World} {B : Nat} {v : Value} {l : List Bk} (h : GrowB w B v l) : ∃ x c, v = .slice x l.length c ∧ CameB w x l := by
  rcases h.form with ⟨h1, h2⟩ | ⟨g, c, h1, _, h3⟩
  · subst h2; exact ⟨none, 0, h1, .inl rfl⟩
  · exact ⟨_, c, h1, .inr ⟨g, 0, rfl, h3⟩⟩
/-- 'append(v, src...)', brackets. -/
theorem wpList_app_bks {ops : Array Oper} {rest : List Oper} {o : Oper} {a : Act} {Q : Exit → Act → World → Prop} (w : World) (hgd : o.guard = none) (s x : Operand)
    (ho : o.op = .call { callee := .builtin .append, args := #[s, x], argTypes := #[22, 22] })
    (B : Nat) (v : Value) (l : List Bk) (hs : a.eval s = v) (hown : GrowB w B v l) (b off m c : Nat) (news : List Bk) (hx : a.eval x = .slice (some ⟨b, off, none⟩) m c) (hsrc : BAt w b off news) (hm : news.length = m)
    (hb : (l.length + m) * 16 ≤ 140737488355328) (hB : B ≤ w.heap.size)
    (h : ∀ v' w', GrowB w' B v' (l ++ news) → Below B w w' → w.grownBy w' v.ownBlock → (v'.ownBlock = v.ownBlock ∨ v'.ownBlock = some w.heap.size) → wpList Try.prog ops Q rest (a.put o.dst v') w') :
    wpList Try.prog ops Q (o :: rest) a w := by
  obtain ⟨i0, hi, hz0, hz1, hz2⟩ := info_parts bk_info
  have hnews : ∀ j u, (cellsB news)[j]? = some u → w.cell? ((⟨b, off, none⟩ : Addr).add j) = some u := by
    intro j u hu
    rw [Addr.add_lit]
    exact holds_of_bat hsrc j u hu
  obtain ⟨v', w', hr, h2, h3, _, h5⟩ := run_append_own_at (P := Try.prog) w B 22 o.type 43 i0 _ 2 16 Try.underlying22 hi hz0 hz1 hz2 rfl (by decide) v l.length (cellsB l) hown ⟨b, off, none⟩ m c (cellsB news) (by rw [cellsB_length, hm]) hnews (cellsB_one_cell news) (by unfold maxLen; omega) hb hB
  have h2' : GrowB w' B v' (l ++ news) := by
    unfold GrowB
    rw [List.length_append, hm, cellsB_append]
    exact h2
  refine wpList_plain hgd fun _ hK => ?_
  unfold Oper.wp execOp
  simp only [ho, resolve, invoke, builtin, Sem.run_bind, Sem.run_pure, Result.andThen_ok, List.map_toArray, List.map_cons, List.map_nil, hs, hx, hr]
  exact hK _ _ (h v' w' h2' ((Below.refl B w).grown h3 hB fun k hk => (GrowB.lt hown k hk).1) h3 h5)
/-- The slice v, of the call's own from block B on, holds the numbers l. -/
def GrowI (w : World) (B : Nat) (v : Value) (l : List Int) : Prop := w.ownsRow B 3 1 v l.length (l.map (Value.int .i64))
theorem GrowI.alloc {w : World} {B : Nat} {v : Value} {l : List Int} (h : GrowI w B v l) (o : Obj) : GrowI (w.alloc o) B v l := World.ownsRow.alloc h o
theorem GrowI.lt {w : World} {B : Nat} {v : Value} {l : List Int} (h : GrowI w B v l) : ∀ k, v.ownBlock = some k → B ≤ k ∧ k < w.heap.size := World.ownsRow.lt h
theorem GrowI.below {w w' : World} {B : Nat} {v : Value} {l : List Int} (h : GrowI w B v l) (hb : Below w.heap.size w w') : GrowI w' B v l := by
  refine World.ownsRow.kept (row := none) h ⟨hb.os, hb.tape, hb.output, hb.size, fun k hk _ => hb.block k hk⟩ ?_
  cases v.ownBlock with
  | none => exact .inl rfl
  | some k => exact .inr (Option.some_ne_none k)
/-- 'append(v, n)', numbers. -/
theorem wpList_app_int {ops : Array Oper} {rest : List Oper} {o : Oper} {a : Act} {Q : Exit → Act → World → Prop} (w : World) (hgd : o.guard = none) (s x : Operand)
    (ho : o.op = .call { callee := .builtin .append, args := #[s, x], argTypes := #[54, 54] })
    (B : Nat) (v : Value) (l : List Int) (hs : a.eval s = v) (hown : GrowI w B v l) (b c : Nat) (z : Int) (hx : a.eval x = .slice (some ⟨b, 0, none⟩) 1 c) (hsrc : w.cell? ⟨b, 0, none⟩ = some (.int .i64 z))
    (hb : (l.length + 1) * 8 ≤ 140737488355328) (hB : B ≤ w.heap.size)
    (h : ∀ v' w', GrowI w' B v' (l ++ [z]) → Below B w w' → w.grownBy w' v.ownBlock → (v'.ownBlock = v.ownBlock ∨ v'.ownBlock = some w.heap.size) → wpList Try.prog ops Q rest (a.put o.dst v') w') :
    wpList Try.prog ops Q (o :: rest) a w := by
  obtain ⟨i0, hi, hz0, hz1, hz2⟩ := info_parts int_info
  have hnews : ∀ j u, ([Value.int .i64 z])[j]? = some u → w.cell? ((⟨b, 0, none⟩ : Addr).add j) = some u := by
    intro j u hu
    rw [Addr.add_lit, Nat.zero_add]
    match j with
    | 0 =>
      simp at hu
      subst hu
      exact hsrc
    | j + 1 => simp at hu
  obtain ⟨v', w', hr, h2, h3, _, h5⟩ := run_append_own_at (P := Try.prog) w B 54 o.type 3 i0 _ 1 8 Try.underlying54 hi hz0 hz1 hz2 rfl (by decide) v l.length (l.map (Value.int .i64)) hown ⟨b, 0, none⟩ 1 c [Value.int .i64 z] rfl hnews (by simp [Value.oneCell']) (by unfold maxLen; omega) hb hB
  have h2' : GrowI w' B v' (l ++ [z]) := by
    unfold GrowI
    rw [List.length_append, List.map_append]
    exact h2
  refine wpList_plain hgd fun _ hK => ?_
  unfold Oper.wp execOp
  simp only [ho, resolve, invoke, builtin, Sem.run_bind, Sem.run_pure, Result.andThen_ok, List.map_toArray, List.map_cons, List.map_nil, hs, hx, hr]
  exact hK _ _ (h v' w' h2' ((Below.refl B w).grown h3 hB fun k hk => (GrowI.lt hown k hk).1) h3 h5)
theorem make_ints (n : Nat) (h : n ≤ 60) (w : World) :
    (Instr.makeSlice 54 (.int .i64 0) (.int .i64 (n : Int))).run Try.prog w = .ok (.slice (some ⟨w.heap.size, 0, none⟩) 0 n) (w.alloc (.cells (madeCells #[.int .i64 0] n) 3)) := by
  obtain ⟨i0, hi, hz0, hz1, hz2⟩ := info_parts int_info
  have h := run_make (P := Try.prog) w 54 3 i0 _ Try.underlying54 hi hz0 .i64 .i64 0 (n : Int) (by omega) (by omega) (by rw [hz2]; omega) (by omega)
  rw [hz1] at h
  simpa [Value.cells] using h
theorem make_bks (n : Nat) (h : n ≤ 60) (w : World) :
    (Instr.makeSlice 22 (.int .i64 0) (.int .i64 (n : Int))).run Try.prog w = .ok (.slice (some ⟨w.heap.size, 0, none⟩) 0 n) (w.alloc (.cells (madeCells #[.int .i64 0, .int .i64 0] (n * 2)) 43)) := by
  obtain ⟨i0, hi, hz0, hz1, hz2⟩ := info_parts bk_info
  have h := run_make (P := Try.prog) w 22 43 i0 _ Try.underlying22 hi hz0 .i64 .i64 0 (n : Int) (by omega) (by omega) (by rw [hz2]; omega) (by omega)
  rw [hz1] at h
  simpa [Value.cells] using h
/-- slices.Grow of nothing. -/
theorem grow_nil (n : Nat) (h1 : 1 ≤ n) (h2 : n ≤ 100) (w : World) :
    Calls Try.prog 58 #[.slice none 0 0, .int .i64 (n : Int)] w fun e w' => ∃ v, e = .returned v ∧ GrowB w' w.heap.size v [] ∧ Below w.heap.size w w' := by
  obtain ⟨i0, hi, hz0, hz1, hz2⟩ := info_parts bk_info
  have hrz : ∀ ty, (Builtin.append_ #[22, 3] ty #[.slice none 0 0, .int .i64 (n : Int)]).run Try.prog w = _ := fun ty =>
    Lib.run_append_grow_zeros w 22 3 ty 43 i0 _ .i64 .i64 Try.underlying22 Try.underlying3 hi hz0 none 0 0 [] (run_firstCells_none w.drew i0.size 0 0 0) n (by omega) (by omega) (by omega) (by omega) (by rw [hz2]; omega) (by rw [Nat.zero_add]; exact growslice_fits (by omega) (by rw [hz2]; omega))
  have hG := grownCap_ge w (0 + n) 0 43
  have hG2 := grownCap_le_maxLen w (0 + n) 0 43 (by unfold maxLen; omega)
  generalize grownCap w (0 + n) 0 43 = G at *
  have hG63 : G ≤ 9223372036854775807 := by unfold maxLen at hG2; omega
  rw [Nat.zero_add] at hrz hG
  have h0 : ¬ ((n : Int) < 0) := by omega
  have h3 : (n : Int) > 0 := by omega
  go_enter Try.func58, Try.ntmps58
  go_wp2_with (at_builtin; refine Lib.wpList_append_run _ rfl _ _ _ _ rfl _ _ rfl rfl _ _ (hrz _) ?_)
  go_ret
  refine ⟨_, rfl, ?_, ((Below.refl w.heap.size w).alloc (Nat.le_refl _) _).drew⟩
  refine World.ownsRow_made (w := w) _ G (Nat.le_refl _) hG2 ?_
  rw [Array.size_append, size_zeroCells, size_zeroCells]
  simp
  omega
end Go.Proofs.Ytmiijmgidbbmhaa
