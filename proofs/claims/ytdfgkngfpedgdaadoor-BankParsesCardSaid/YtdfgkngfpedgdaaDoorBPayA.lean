/-
  Promise P4: lists of payments of the call's own, that others are appended to; what is rejected, and what is wrong with a list of refs.
-/
import Derived.Test.YtdfgkngfpedgdaaDoorBPayR
import Derived.Test.YtdfgkngfpedgdaaDoorMGrow
import Derived.Maps.AppendAt
import Derived.Laws.MakeOwn
import Derived.OwnWalk
namespace Go.Proofs.YtdfgkngfpedgdaaDoor
open Go.RowKit Go.Maps Go.WideMaps

def encP (p : Py) : List Value := [.string p.acc, .string p.nam, .int .i64 p.mon, .int .i64 p.ref]
def cellsP : List Py → List Value
  | [] => []
  | r :: l => encP r ++ cellsP l
theorem cellsP_length : ∀ l : List Py, (cellsP l).length = l.length * 4
  | [] => rfl
  | r :: l => by
    rw [cellsP, List.length_append, cellsP_length l, List.length_cons]
    simp [encP]
    omega
theorem cellsP_append : ∀ l m : List Py, cellsP (l ++ m) = cellsP l ++ cellsP m
  | [], _ => rfl
  | r :: l, m => by rw [List.cons_append, cellsP, cellsP, cellsP_append l m, List.append_assoc]
theorem pnth_cons (r : Py) (l : List Py) (k : Nat) : pnth (r :: l) (k + 1) = pnth l k := rfl
theorem pnth_zero (r : Py) (l : List Py) : pnth (r :: l) 0 = r := rfl
theorem cellsP_get : ∀ (l : List Py) (k c : Nat), k < l.length → c < 4 → (cellsP l)[k * 4 + c]? = (encP (pnth l k))[c]?
  | [], k, c, hk, _ => absurd hk (by simp)
  | r :: l, 0, c, _, hc => by
    rw [cellsP, pnth_zero, List.getElem?_append_left (by simp [encP]; omega), Nat.zero_mul, Nat.zero_add]
  | r :: l, k + 1, c, hk, hc => by
    rw [cellsP, pnth_cons, List.getElem?_append_right (by simp [encP]; omega), ← cellsP_get l k c (by simpa using hk) hc]
    congr 1
    simp [encP]
    omega
theorem py_info : (Tryd.prog.info? 46).map (fun i => (i.zero, i.size, i.bytes)) = some (some (.agg #[.string ⟨#[]⟩, .string ⟨#[]⟩, .int .i64 0, .int .i64 0]), 4, 48) := by kernel_rfl
/-- The slice v, nil or of the call's own from block B on, holds the payments l. -/
def GrowP (w : World) (B : Nat) (v : Value) (l : List Py) : Prop := w.ownsRow B 46 4 v l.length (cellsP l)
theorem GrowP.nil (w : World) (B : Nat) : GrowP w B (.slice none 0 0) [] := World.ownsRow_nil _ _ _ _
theorem GrowP.alloc {w : World} {B : Nat} {v : Value} {l : List Py} (h : GrowP w B v l) (o : Obj) : GrowP (w.alloc o) B v l := World.ownsRow.alloc h o
theorem GrowP.lt {w : World} {B : Nat} {v : Value} {l : List Py} (h : GrowP w B v l) : ∀ k, v.ownBlock = some k → B ≤ k ∧ k < w.heap.size := World.ownsRow.lt h
theorem GrowP.kept {w w' : World} {B : Nat} {v u : Value} {l : List Py} (h : GrowP w B v l) (hg : w.grownBy w' u.ownBlock) (ha : Apart v u) : GrowP w' B v l := by
  rcases ha with ha | ha | ha
  · exact World.ownsRow.kept h hg (.inl ha)
  · cases hv : v.ownBlock with
    | none => exact World.ownsRow.kept h hg (.inl hv)
    | some k => exact World.ownsRow.kept h hg (.inr (by rw [hv, ha]; exact Option.some_ne_none k))
  · exact World.ownsRow.kept h hg (.inr ha)
theorem GrowP.below {w w' : World} {B : Nat} {v : Value} {l : List Py} (h : GrowP w B v l) (hb : Below w.heap.size w w') : GrowP w' B v l := by
  refine World.ownsRow.kept (row := none) h ⟨hb.os, hb.tape, hb.output, hb.size, fun k hk _ => hb.block k hk⟩ ?_
  cases v.ownBlock with
  | none => exact .inl rfl
  | some k => exact .inr (Option.some_ne_none k)
theorem GrowP.mono {w : World} {B B' : Nat} {v : Value} {l : List Py} (h : GrowP w B v l) (hB : B' ≤ B) : GrowP w B' v l := by
  obtain ⟨q1, q2⟩ := h
  refine ⟨q1, q2.imp id ?_⟩
  rintro ⟨g, cap, cur, e1, e2, r⟩
  exact ⟨g, cap, cur, e1, by omega, r⟩
theorem GrowP.slice {w : World} {B : Nat} {v : Value} {l : List Py} (h : GrowP w B v l) : ∃ x c, v = .slice x l.length c ∧ CameP w x l := by
  have hh := h
  rcases h.2 with ⟨h1, h2⟩ | ⟨g, c, cur, h1, h2, hgc, _⟩
  · exact ⟨none, 0, by rw [h1, h2], .inl h2⟩
  · subst h1
    have key : ∀ j, j < l.length → ∀ c, c < 4 → ∀ u, (encP (pnth l j))[c]? = some u → w.cell? ⟨g, j * 4 + c, none⟩ = some u := fun j hj c hc u hu => by
      have := World.ownsRow.cells hh (g := g) rfl (j * 4 + c) u ((cellsP_get l j c hj hc).trans hu)
      rwa [Addr.add_lit, Nat.zero_add] at this
    refine ⟨_, c, rfl, .inr ⟨g, 0, rfl, (GrowP.lt hh g rfl).2, fun j hj => ?_⟩⟩
    rw [Nat.zero_add]
    exact ⟨key j hj 0 (by omega) _ rfl, key j hj 1 (by omega) _ rfl, key j hj 2 (by omega) _ rfl, key j hj 3 (by omega) _ rfl⟩
/-- 'v = append(v, p)'. -/
theorem wpList_appP {ops : Array Oper} {rest : List Oper} {o : Oper} {a : Act} {Q : Exit → Act → World → Prop} (w : World) (hgd : o.guard = none) (s x : Operand)
    (ho : o.op = .call { callee := .builtin .append, args := #[s, x], argTypes := #[31, 31] })
    (B : Nat) (v : Value) (l : List Py) (hs : a.eval s = v) (hown : GrowP w B v l) (b c : Nat) (p : Py) (hx : a.eval x = .slice (some ⟨b, 0, none⟩) 1 c)
    (h0 : w.cell? ⟨b, 0, none⟩ = some (.string p.acc)) (h1 : w.cell? ⟨b, 1, none⟩ = some (.string p.nam)) (h2 : w.cell? ⟨b, 2, none⟩ = some (.int .i64 p.mon)) (h3 : w.cell? ⟨b, 3, none⟩ = some (.int .i64 p.ref))
    (hb : l.length ≤ 1000) (hB : B ≤ w.heap.size)
    (h : ∀ v' w', GrowP w' B v' (l ++ [p]) → w.grownBy w' v.ownBlock → (v'.ownBlock = v.ownBlock ∨ v'.ownBlock = some w.heap.size) → Below B w w' → wpList Tryd.prog ops Q rest (a.put o.dst v') w') :
    wpList Tryd.prog ops Q (o :: rest) a w := by
  obtain ⟨i0, hi, hz0, hz1, hz2⟩ := info_parts py_info
  have hnews : ∀ j u, (encP p)[j]? = some u → w.cell? ((⟨b, 0, none⟩ : Addr).add j) = some u := by
    intro j u hu
    rw [Addr.add_lit, Nat.zero_add]
    match j with
    | 0 => simp [encP] at hu; subst hu; exact h0
    | 1 => simp [encP] at hu; subst hu; exact h1
    | 2 => simp [encP] at hu; subst hu; exact h2
    | 3 => simp [encP] at hu; subst hu; exact h3
    | j + 4 => simp [encP] at hu
  obtain ⟨v', w', hr, r2, r3, _, r5⟩ := run_append_own_at (P := Tryd.prog) w B 31 o.type 46 i0 _ 4 48 Tryd.underlying31 hi hz0 hz1 hz2 rfl (by decide) v l.length (cellsP l) hown ⟨b, 0, none⟩ 1 c (encP p) rfl hnews (by intro u hu; simp [encP] at hu; rcases hu with rfl | rfl | rfl | rfl <;> rfl) (by unfold maxLen; omega) (by omega) hB
  have r2' : GrowP w' B v' (l ++ [p]) := by
    unfold GrowP
    rw [List.length_append, cellsP_append]
    simpa [cellsP] using r2
  refine wpList_plain hgd fun _ hK => ?_
  unfold Oper.wp execOp
  simp only [ho, resolve, invoke, builtin, Sem.run_bind, Sem.run_pure, Result.andThen_ok, List.map_toArray, List.map_cons, List.map_nil, hs, hx, hr]
  exact hK _ _ (h v' w' r2' r3 r5 ((Below.refl B w).grown r3 hB fun k hk => (GrowP.lt hown k hk).1))
/-- Behind an append to v the other list is apart from what v has become. -/
theorem Apart.appP {w : World} {B : Nat} {v v' u : Value} {l : List Py} (ha : Apart u v) (hu : GrowP w B u l) (h : v'.ownBlock = v.ownBlock ∨ v'.ownBlock = some w.heap.size) : Apart u v' := by
  unfold Apart at *
  rcases h with h | h
  · rw [h]; exact ha
  · rw [h]
    cases hv : u.ownBlock with
    | none => exact .inl rfl
    | some k =>
      right; right
      have := hu.lt k hv
      intro e
      cases e
      omega
/-- Is a number among the first k of a list? -/
def metI (z : List Int) (x : Int) : Nat → Bool
  | 0 => false
  | k + 1 => metI z x k || nth z k == x
/-- Of the first k payments those whose ref is so. -/
def selP (l : List Py) (P : Int → Bool) : Nat → List Py
  | 0 => []
  | k + 1 => selP l P k ++ if P (pnth l k).ref = true then [pnth l k] else []
theorem selP_yes {l : List Py} {P : Int → Bool} {k : Nat} (h : P (pnth l k).ref = true) : selP l P (k + 1) = selP l P k ++ [pnth l k] := by rw [selP, if_pos h]
theorem selP_no {l : List Py} {P : Int → Bool} {k : Nat} (h : P (pnth l k).ref = false) : selP l P (k + 1) = selP l P k := by rw [selP, if_neg (by rw [h]; simp), List.append_nil]
theorem selP_len (l : List Py) (P : Int → Bool) : ∀ k, (selP l P k).length ≤ k
  | 0 => Nat.le_refl _
  | k + 1 => by
    have := selP_len l P k
    rw [selP, List.length_append]
    split <;> simp <;> omega
/-- What is wrong with the i-th of a list of refs. -/
def badI (l : List Py) (n : Nat) (z : List Int) (i : Nat) : Int := if metR l (nth z i) n = true then (if metI z (nth z i) i = true then 6 else 0) else 5
theorem badI_none {l : List Py} {n : Nat} {z : List Int} {i : Nat} (h : metR l (nth z i) n = false) : badI l n z i = 5 := by unfold badI; rw [h]; rfl
theorem badI_twice {l : List Py} {n : Nat} {z : List Int} {i : Nat} (h : metR l (nth z i) n = true) (h2 : metI z (nth z i) i = true) : badI l n z i = 6 := by unfold badI; rw [h, h2]; rfl
theorem badI_ok {l : List Py} {n : Nat} {z : List Int} {i : Nat} (h : metR l (nth z i) n = true) (h2 : metI z (nth z i) i = false) : badI l n z i = 0 := by unfold badI; rw [h, h2]; rfl
def firstI (l : List Py) (n : Nat) (z : List Int) : Nat → Int
  | 0 => 0
  | k + 1 => if firstI l n z k = 0 then badI l n z k else firstI l n z k
theorem firstI_ok {l : List Py} {n : Nat} {z : List Int} : ∀ {k : Nat}, (∀ j, j < k → badI l n z j = 0) → firstI l n z k = 0
  | 0, _ => rfl
  | k + 1, h => by rw [firstI, firstI_ok (k := k) (fun j hj => h j (by omega)), if_pos rfl, h k (by omega)]
theorem firstI_at {l : List Py} {n : Nat} {z : List Int} {k : Nat} (h : ∀ j, j < k → badI l n z j = 0) (hk : badI l n z k ≠ 0) : ∀ {m : Nat}, k < m → firstI l n z m = badI l n z k
  | 0, hn => by omega
  | m + 1, hn => by
    by_cases e : k = m
    · subst e; rw [firstI, firstI_ok h, if_pos rfl]
    · rw [firstI, firstI_at h hk (m := m) (by omega), if_neg hk]
theorem firstI_zero {l : List Py} {n : Nat} {z : List Int} : ∀ {m : Nat}, firstI l n z m = 0 → ∀ j, j < m → badI l n z j = 0
  | 0, _, j, hj => by omega
  | m + 1, h, j, hj => by
    rw [firstI] at h
    by_cases h0 : firstI l n z m = 0
    · rw [if_pos h0] at h
      by_cases e : j = m
      · subst e; exact h
      · exact firstI_zero h0 j (by omega)
    · rw [if_neg h0] at h; exact absurd h h0
def rejE (l : List Py) (n : Nat) (z : List Int) (m : Nat) : Int := if payE l n = 0 then firstI l n z m else payE l n
theorem rejE_pay {l : List Py} {n : Nat} {z : List Int} {m : Nat} (h : payE l n ≠ 0) : rejE l n z m = payE l n := if_neg h
theorem rejE_ref {l : List Py} {n : Nat} {z : List Int} {m : Nat} (h : payE l n = 0) : rejE l n z m = firstI l n z m := if_pos h
end Go.Proofs.YtdfgkngfpedgdaaDoor
