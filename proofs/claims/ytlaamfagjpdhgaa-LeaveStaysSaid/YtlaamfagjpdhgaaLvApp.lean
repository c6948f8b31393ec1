/-
  Lists of uses of the call's own, that others are appended to; what must be in any case.
-/
import Derived.Test.YtlaamfagjpdhgaaLvFirst
import Derived.ArgAppend
import Derived.Maps.AppendAt
import Derived.Deep.RegionLaw
import Derived.Laws.MakeOwn
import Derived.OwnWalk
namespace Go.Proofs.Ytlaamfagjpdhgaa
open Go.RowKit

def usV (r : Us) : List Value := [.int .i64 r.day, .int .i64 r.days]
def cellsU : List Us → List Value
  | [] => []
  | r :: l => usV r ++ cellsU l
theorem cellsU_length : ∀ l : List Us, (cellsU l).length = l.length * 2
  | [] => rfl
  | r :: l => by
    rw [cellsU, List.length_append, cellsU_length l, List.length_cons]
    simp [usV]
    omega
theorem cellsU_append : ∀ l m : List Us, cellsU (l ++ m) = cellsU l ++ cellsU m
  | [], _ => rfl
  | r :: l, m => by rw [List.cons_append, cellsU, cellsU, cellsU_append l m, List.append_assoc]
theorem unth_cons (r : Us) (l : List Us) (k : Nat) : unth (r :: l) (k + 1) = unth l k := rfl
theorem unth_zero (r : Us) (l : List Us) : unth (r :: l) 0 = r := rfl
theorem cellsU_get : ∀ (l : List Us) (k c : Nat), k < l.length → c < 2 → (cellsU l)[k * 2 + c]? = (usV (unth l k))[c]?
  | [], k, c, hk, _ => absurd hk (by simp)
  | r :: l, 0, c, _, hc => by
    rw [cellsU, unth_zero, List.getElem?_append_left (by simp [usV]; omega), Nat.zero_mul, Nat.zero_add]
  | r :: l, k + 1, c, hk, hc => by
    rw [cellsU, unth_cons, List.getElem?_append_right (by simp [usV]; omega), ← cellsU_get l k c (by simpa using hk) hc]
    congr 1
    simp [usV]
    omega
theorem cellsU_one_cell : ∀ (l : List Us) (u : Value), u ∈ cellsU l → u.oneCell' = true
  | [], u, h => by simp [cellsU] at h
  | r :: l, u, h => by
    rw [cellsU, List.mem_append] at h
    rcases h with h | h
    · simp only [usV, List.mem_cons, List.not_mem_nil, or_false] at h
      rcases h with rfl | rfl <;> rfl
    · exact cellsU_one_cell l u h
theorem holds_of_uat {w : World} {b off : Nat} {l : List Us} (h : UAt w b off l) : ∀ j u, (cellsU l)[j]? = some u → w.cell? ⟨b, off + j, none⟩ = some u := by
  intro j u hu
  have hj : j < l.length * 2 := by
    rw [← cellsU_length]
    by_cases h' : j < (cellsU l).length
    · exact h'
    · rw [List.getElem?_eq_none (by omega)] at hu; cases hu
  have hk : j / 2 < l.length := by omega
  obtain ⟨h0, h1⟩ := h.2 (j / 2) hk
  have hje : j / 2 * 2 + j % 2 = j := by omega
  have hg := cellsU_get l (j / 2) (j % 2) hk (by omega)
  rw [hje, hu] at hg
  have hc : j % 2 = 0 ∨ j % 2 = 1 := by omega
  rcases hc with hc | hc <;> rw [hc] at hg hje <;> simp only [usV, List.getElem?_cons_zero, List.getElem?_cons_succ, Option.some.injEq] at hg <;> subst hg
  · rw [show off + j = off + j / 2 * 2 from by omega]; exact h0
  · rw [show off + j = off + j / 2 * 2 + 1 from by omega]; exact h1
theorem us_info : (Try.prog.info? 64).map (fun i => (i.zero, i.size, i.bytes)) = some (some (.agg #[.int .i64 0, .int .i64 0]), 2, 16) := by kernel_rfl
/-- The slice v, nil or of the call's own from block B on, holds the uses l. -/
def GrowU (w : World) (B : Nat) (v : Value) (l : List Us) : Prop := w.ownsRow B 64 2 v l.length (cellsU l)
theorem GrowU.alloc {w : World} {B : Nat} {v : Value} {l : List Us} (h : GrowU w B v l) (o : Obj) : GrowU (w.alloc o) B v l := World.ownsRow.alloc h o
theorem GrowU.lt {w : World} {B : Nat} {v : Value} {l : List Us} (h : GrowU w B v l) : ∀ k, v.ownBlock = some k → B ≤ k ∧ k < w.heap.size := World.ownsRow.lt h
theorem GrowU.below {w w' : World} {B : Nat} {v : Value} {l : List Us} (h : GrowU w B v l) (hb : Below w.heap.size w w') : GrowU w' B v l := by
  refine World.ownsRow.kept (row := none) h ⟨hb.os, hb.tape, hb.output, hb.size, fun k hk _ => hb.block k hk⟩ ?_
  cases v.ownBlock with
  | none => exact .inl rfl
  | some k => exact .inr (Option.some_ne_none k)
theorem GrowU.mono {w : World} {B B' : Nat} {v : Value} {l : List Us} (h : GrowU w B v l) (hB : B' ≤ B) : GrowU w B' v l := by
  refine ⟨h.1, ?_⟩
  rcases h.2 with hn | ⟨g, cap, cur, h1, h2, rest⟩
  · exact .inl hn
  · exact .inr ⟨g, cap, cur, h1, Nat.le_trans hB h2, rest⟩
theorem GrowU.form {w : World} {B : Nat} {v : Value} {l : List Us} (h : GrowU w B v l) : (v = .slice none 0 0 ∧ l = []) ∨ ∃ g c, v = .slice (some ⟨g, 0, none⟩) l.length c ∧ B ≤ g ∧ UAt w g 0 l := by
  have hh := h
  rcases h.2 with ⟨h1, h2⟩ | ⟨g, c, cur, h1, h2, _⟩
  · exact .inl ⟨h1, List.eq_nil_of_length_eq_zero h2⟩
  · subst h1
    refine .inr ⟨g, c, rfl, h2, (GrowU.lt hh g rfl).2, fun j hj => ?_⟩
    have key : ∀ c, c < 2 → ∀ u, (usV (unth l j))[c]? = some u → w.cell? ⟨g, j * 2 + c, none⟩ = some u := fun c hc u hu => by
      have := World.ownsRow.cells hh (g := g) rfl (j * 2 + c) u ((cellsU_get l j c hj hc).trans hu)
      rwa [Addr.add_lit, Nat.zero_add] at this
    rw [Nat.zero_add]
    exact ⟨key 0 (by omega) _ rfl, key 1 (by omega) _ rfl⟩
theorem GrowU.slice {w : World} {B : Nat} {v : Value} {l : List Us} (h : GrowU w B v l) : ∃ x c, v = .slice x l.length c ∧ CameU w x l := by
  rcases h.form with ⟨h1, h2⟩ | ⟨g, c, h1, _, h3⟩
  · subst h2; exact ⟨none, 0, h1, .inl rfl⟩
  · exact ⟨_, c, h1, .inr ⟨g, 0, rfl, h3⟩⟩
theorem GrowU.made (w : World) {B : Nat} (hB : B ≤ w.heap.size) : GrowU (w.alloc (.cells #[] 64)) B (.slice (some ⟨w.heap.size, 0, none⟩) 0 0) [] :=
  World.ownsRow_made (w := w) #[] 0 hB (by unfold maxLen; omega) (by simp)
set_option maxRecDepth 100000 in
theorem run_app_us (w : World) (ty : TypeId) (B : Nat) (v : Value) (l : List Us) (hown : GrowU w B v l) (src : Option Addr) (m c : Nat) (news : List Us) (hsrc : CameU w src news) (hm : news.length = m)
    (hb : (l.length + m) * 16 ≤ 140737488355328) (hB : B ≤ w.heap.size) :
    ∃ v' w', (Builtin.append_ #[56, 56] ty #[v, .slice src m c]).run Try.prog w = .ok v' w' ∧ GrowU w' B v' (l ++ news) ∧ w.grownBy w' v.ownBlock ∧ Below B w w' := by
  obtain ⟨i0, hi, hz0, hz1, hz2⟩ := info_parts us_info
  cases src with
  | none =>
    have h0 : news.length = 0 := by
      rcases hsrc with h | ⟨b, off, he, _⟩
      · exact h
      · cases he
    have hn : news = [] := List.eq_nil_of_length_eq_zero h0
    subst hn
    obtain rfl : m = 0 := by omega
    refine ⟨v, w, ?_, by rw [List.append_nil]; exact hown, ⟨rfl, rfl, rfl, Nat.le_refl _, fun _ _ _ => rfl⟩, Below.refl _ _⟩
    rcases hown.2 with ⟨rfl, h2⟩ | ⟨g, cap, cur, rfl, h2, h3, h4, _⟩
    · simp [Builtin.append_, run_underlying Try.underlying56, sizeOf, typeInfo, hi, Builtin.lenOf, Builtin.firstCells]
    · simp [Builtin.append_, run_underlying Try.underlying56, sizeOf, typeInfo, hi, Builtin.lenOf, Builtin.firstCells, h4, storeCells]
  | some ad =>
    have hnews : ∀ j u, (cellsU news)[j]? = some u → w.cell? (ad.add j) = some u := by
      intro j u hu
      rcases hsrc with h0 | ⟨b, off, e, hat⟩
      · obtain rfl := List.eq_nil_of_length_eq_zero h0
        simp [cellsU] at hu
      · injection e with e
        subst e
        rw [Addr.add_lit]
        exact holds_of_uat hat j u hu
    obtain ⟨v', w', hr, h2, h3, _, h5⟩ := run_append_own_at (P := Try.prog) w B 56 ty 64 i0 _ 2 16 Try.underlying56 hi hz0 hz1 hz2 rfl (by decide) v l.length (cellsU l) hown ad m c (cellsU news) (by rw [cellsU_length, hm]) hnews (cellsU_one_cell news) (by unfold maxLen; omega) hb hB
    refine ⟨v', w', hr, ?_, h3, (Below.refl B w).grown h3 hB fun k hk => (GrowU.lt hown k hk).1⟩
    unfold GrowU
    rw [List.length_append, hm, cellsU_append]
    exact h2
theorem wpList_app_us {ops : Array Oper} {rest : List Oper} {o : Oper} {a : Act} {Q : Exit → Act → World → Prop} (w : World) (hgd : o.guard = none) (s x : Operand)
    (ho : o.op = .call { callee := .builtin .append, args := #[s, x], argTypes := #[56, 56] })
    (B : Nat) (v : Value) (l : List Us) (hs : a.eval s = v) (hown : GrowU w B v l) (src : Option Addr) (m c : Nat) (news : List Us) (hx : a.eval x = .slice src m c) (hsrc : CameU w src news) (hm : news.length = m)
    (hb : (l.length + m) * 16 ≤ 140737488355328) (hB : B ≤ w.heap.size)
    (h : ∀ v' w', GrowU w' B v' (l ++ news) → w.grownBy w' v.ownBlock → Below B w w' → wpList Try.prog ops Q rest (a.put o.dst v') w') :
    wpList Try.prog ops Q (o :: rest) a w := by
  obtain ⟨v', w', hr, h2, h3, h4⟩ := run_app_us w o.type B v l hown src m c news hsrc hm hb hB
  refine wpList_plain hgd fun _ hK => ?_
  unfold Oper.wp execOp
  simp only [ho, resolve, invoke, builtin, Sem.run_bind, Sem.run_pure, Result.andThen_ok, List.map_toArray, List.map_cons, List.map_nil, hs, hx, hr]
  exact hK _ _ (h v' w' h2 h3 h4)
theorem step_app_us {ops : Array Oper} {o : Oper} {a : Act} {K : Act → World → Prop} {Q : Exit → Act → World → Prop} {E : Prop} (w : World) (hgd : o.guard = none) (s x : Operand)
    (ho : o.op = .call { callee := .builtin .append, args := #[s, x], argTypes := #[56, 56] })
    (B : Nat) (v : Value) (l : List Us) (hs : a.eval s = v) (hown : GrowU w B v l) (src : Option Addr) (m c : Nat) (news : List Us) (hx : a.eval x = .slice src m c) (hsrc : CameU w src news) (hm : news.length = m)
    (hb : (l.length + m) * 16 ≤ 140737488355328) (hB : B ≤ w.heap.size)
    (h : ∀ v' w', GrowU w' B v' (l ++ news) → Below B w w' → w.grownBy w' v.ownBlock → K (a.put o.dst v') w') :
    if Region.wanted o (yielded ops a.tmps) = true then Oper.wp Try.prog o a w K Q else E := by
  have hw : Region.wanted o (yielded ops a.tmps) = true := by simp [Region.wanted, hgd]
  rw [if_pos hw]
  obtain ⟨v', w', hr, h2, h3, h4⟩ := run_app_us w o.type B v l hown src m c news hsrc hm hb hB
  unfold Oper.wp execOp
  simp only [ho, resolve, invoke, builtin, Sem.run_bind, Sem.run_pure, Result.andThen_ok, List.map_toArray, List.map_cons, List.map_nil, hs, hx, hr]
  exact h v' w' h2 h4 h3
theorem UAt.take {w : World} {g off : Nat} {F : List Us} (h : UAt w g off F) (j : Nat) : UAt w g off (F.take j) := by
  refine ⟨h.1, fun i hi => ?_⟩
  rw [List.length_take] at hi
  have e : unth (F.take j) i = unth F i := by
    unfold unth
    rw [List.getD_eq_getElem?_getD, List.getElem?_take, if_pos (by omega), List.getD_eq_getElem?_getD]
  rw [e]
  exact h.2 i (by omega)
theorem UAt.drop {w : World} {g off : Nat} {F : List Us} (h : UAt w g off F) (j : Nat) : UAt w g (off + j * 2) (F.drop j) := by
  refine ⟨h.1, fun i hi => ?_⟩
  rw [List.length_drop] at hi
  have e : unth (F.drop j) i = unth F (j + i) := by
    unfold unth
    rw [List.getD_eq_getElem?_getD, List.getElem?_drop, List.getD_eq_getElem?_getD]
  rw [e, show off + j * 2 + i * 2 = off + (j + i) * 2 from by omega]
  exact h.2 (j + i) (by omega)
/-- The leave of what must be in any case. -/
theorem ok0 : LvOk 0 250 1000 [] := ⟨by decide, by simp, fun j hj => by simp at hj, fun j hj => by simp at hj, fun j _ => by rw [List.take_nil]; exact Int.le_refl _⟩
theorem stN_nil (h r c : Int) : stN h r c [] = (nm h, 0) := rfl
theorem nm_0 : nm 0 = 1 := nm_fm (M := 0) (by omega)
theorem fm_2 : fm ((2 : Nat) : Int) = 60 := by decide
theorem nm_60 : nm 60 = 3 := by have := nm_fm (M := 2) (by omega); rw [fm_2] at this; exact this
theorem had0 {v er : Int} (h : HadIs 0 250 1000 [] 60 v er) : er = 0 ∧ v = 500 := by
  have e := h.1.2 ⟨ok0, by decide⟩
  refine ⟨e, ?_⟩
  rw [h.2 e 0 ⟨Nat.le_refl _, fun j hj => by omega, fun j _ hj => by simp at hj⟩]
  unfold hadD rch
  rw [List.take_nil, stN_nil, nm_0, nm_60]
  decide
theorem first0 {v er : Int} (h : FirstIs 0 250 1000 [] 0 300 v er) : er = 0 ∧ v = 60 := by
  have hd : dayU 0 0 [] ([] : List Us).length = 0 := rfl
  have hf : ∀ k, frst 0 0 250 1000 [] k = pas 250 1000 1 k 0 := fun k => by
    unfold frst rch
    rw [hd, stN_nil, nm_0]
    rfl
  have f2 : frst 0 0 250 1000 [] 2 = 500 := by rw [hf]; decide
  have f1 : frst 0 0 250 1000 [] 1 = 250 := by rw [hf]; decide
  have f0 : frst 0 0 250 1000 [] 0 = 0 := by rw [hf]; decide
  rcases h with ⟨h, _⟩ | ⟨_, _, _, ⟨rfl, k, _, hv, hk, hj⟩ | ⟨_, hj⟩⟩
  · exact absurd ⟨ok0, by decide, by decide⟩ h
  · have h2 : ¬ 2 < k := fun q => by have := hj 2 q; omega
    have h0 : k ≠ 0 := fun q => by subst q; omega
    have h1 : k ≠ 1 := fun q => by subst q; omega
    obtain rfl : k = 2 := by omega
    refine ⟨rfl, ?_⟩
    rw [hv]
    unfold frstD
    rw [hd, nm_0]
    exact fm_2
  · have := hj 2 (by rw [hd, nm_0]; omega)
    omega
set_option maxHeartbeats 1000000 in
theorem leaveBegun_any (w : World) : Calls Try.prog 33 #[] w fun e w' => e = .returned (.bool true) ∧ Below w.heap.size w w' := by
  go_enter Try.func33, Try.ntmps33
  go_wp2_with fail
  refine (Had_any 0 250 1000 none 0 0 [] 60 w (.inl rfl) rfl (Nat.zero_le _)).mono ?_
  rintro e w1 ⟨⟨v, er, rfl, hh⟩, hb1⟩
  obtain ⟨rfl, rfl⟩ := had0 hh
  have HB1 := Lib.hid hb1
  clear hb1 hh
  go_wp2_with fail
  refine (First_any 0 250 1000 none 0 0 [] 0 300 w1 (.inl rfl) rfl (Nat.zero_le _)).mono ?_
  rintro e w2 ⟨⟨v, er, rfl, hh⟩, hb2⟩
  obtain ⟨rfl, rfl⟩ := first0 hh
  have HB2 := Lib.hid (HB1.out.trans (hb2.mono HB1.out.size))
  clear hb2 hh
  go_wp2_with fail
  go_ret
  exact ⟨rfl, HB2.out⟩
end Go.Proofs.Ytlaamfagjpdhgaa
