/-
  Promise P4: lists of payments of the call's own, that others are appended to; what is rejected, and what is wrong with a list of refs.
  Promise P4: the walk of Reject.
  Promise P1: the walks of the reference's BankAccount, of what must be in any case (bankBegun), and of the law BankAccounts: it answers true at every input.
  Promise P5: the walk of the reference's PaySum, and of the law BankParts: it answers true at every input.
  Promise P2: what payments come to, and the check of a file: the walks of IsDay, sum, checkNumber, and of the reference's IsDay and FileCheck.
  Promises P2, P3: a file as a list of bytes; strings.Builder; the walk of Print.
-/
import Derived.Test.YtkalfdjmklakdaaGreatDoorKM
import Derived.Test.YtkalfdjmklakdaaGreatDoorKFM
import Derived.Maps.AppendAt
import Derived.Laws.MakeOwn
import Derived.OwnWalk
import Derived.Lib.QuietBelow
import Derived.Test.YtkalfdjmklakdaaGreatDoorKS
import Derived.Deep.RegionHeld3
import Derived.Deep.RegionWith
namespace Go.Proofs.YtkalfdjmklakdaaGreatDoor.Cal.Bnk
open Go.RowKit Go.Maps Go.WideMaps
def encP (p : Py) : List Value := [.string p.acc, .string p.nam, .int .i64 p.mon, .int .i64 p.ref]
def cellsP : List Py → List Value
 | [] => []
 | r :: l => encP r ++ cellsP l
theorem cellsP_length : ∀ l : List Py, (cellsP l).length = l.length * 4
 | [] => rfl
 | r :: l => by
   rw [cellsP, List.length_append, cellsP_length l, List.length_cons]
   simp [encP]
   omega
theorem cellsP_append : ∀ l m : List Py, cellsP (l ++ m) = cellsP l ++ cellsP m
 | [], _ => rfl
 | r :: l, m => by rw [List.cons_append, cellsP, cellsP, cellsP_append l m, List.append_assoc]
theorem pnth_cons (r : Py) (l : List Py) (k : Nat) : pnth (r :: l) (k + 1) = pnth l k := rfl
theorem pnth_zero (r : Py) (l : List Py) : pnth (r :: l) 0 = r := rfl
theorem cellsP_get : ∀ (l : List Py) (k c : Nat), k < l.length → c < 4 → (cellsP l)[k * 4 + c]? = (encP (pnth l k))[c]?
 | [], k, c, hk, _ => absurd hk (by simp)
 | r :: l, 0, c, _, hc => by
   rw [cellsP, pnth_zero, List.getElem?_append_left (by simp [encP]; omega), Nat.zero_mul, Nat.zero_add]
 | r :: l, k + 1, c, hk, hc => by
   rw [cellsP, pnth_cons, List.getElem?_append_right (by simp [encP]; omega), ← cellsP_get l k c (by simpa using hk) hc]
   congr 1
   simp [encP]
   omega
theorem py_info : (Tryz.prog.info? 166).map (fun i => (i.zero, i.size, i.bytes)) = some (some (.agg #[.string ⟨#[]⟩, .string ⟨#[]⟩, .int .i64 0, .int .i64 0]), 4, 48) := by kernel_rfl
def GrowP (w : World) (B : Nat) (v : Value) (l : List Py) : Prop := w.ownsRow B 166 4 v l.length (cellsP l)
theorem GrowP.nil (w : World) (B : Nat) : GrowP w B (.slice none 0 0) [] := World.ownsRow_nil _ _ _ _
theorem GrowP.alloc {w : World} {B : Nat} {v : Value} {l : List Py} (h : GrowP w B v l) (o : Obj) : GrowP (w.alloc o) B v l := World.ownsRow.alloc h o
theorem GrowP.lt {w : World} {B : Nat} {v : Value} {l : List Py} (h : GrowP w B v l) : ∀ k, v.ownBlock = some k → B ≤ k ∧ k < w.heap.size := World.ownsRow.lt h
theorem GrowP.kept {w w' : World} {B : Nat} {v u : Value} {l : List Py} (h : GrowP w B v l) (hg : w.grownBy w' u.ownBlock) (ha : Apart v u) : GrowP w' B v l := by
 rcases ha with ha | ha | ha
 ·exact World.ownsRow.kept h hg (.inl ha)
 ·cases hv : v.ownBlock with
  | none => exact World.ownsRow.kept h hg (.inl hv)
  | some k => exact World.ownsRow.kept h hg (.inr (by rw [hv, ha]; exact Option.some_ne_none k))
 ·exact World.ownsRow.kept h hg (.inr ha)
theorem GrowP.below {w w' : World} {B : Nat} {v : Value} {l : List Py} (h : GrowP w B v l) (hb : Below w.heap.size w w') : GrowP w' B v l := by
 refine World.ownsRow.kept (row := none) h ⟨hb.os, hb.tape, hb.output, hb.size, fun k hk _ => hb.block k hk⟩ ?_
 cases v.ownBlock with
 | none => exact .inl rfl
 | some k => exact .inr (Option.some_ne_none k)
theorem GrowP.mono {w : World} {B B' : Nat} {v : Value} {l : List Py} (h : GrowP w B v l) (hB : B' ≤ B) : GrowP w B' v l := by
 obtain ⟨q1, q2⟩ := h
 refine ⟨q1, q2.imp id ?_⟩
 rintro ⟨g, cap, cur, e1, e2, r⟩
 exact ⟨g, cap, cur, e1, by omega, r⟩
theorem GrowP.slice {w : World} {B : Nat} {v : Value} {l : List Py} (h : GrowP w B v l) : ∃ x c, v = .slice x l.length c ∧ CameP w x l := by
 have hh := h
 rcases h.2 with ⟨h1, h2⟩ | ⟨g, c, cur, h1, h2, hgc, _⟩
 ·exact ⟨none, 0, by rw [h1, h2], .inl h2⟩
 ·subst h1
  have key : ∀ j, j < l.length → ∀ c, c < 4 → ∀ u, (encP (pnth l j))[c]? = some u → w.cell? ⟨g, j * 4 + c, none⟩ = some u := fun j hj c hc u hu => by
   have := World.ownsRow.cells hh (g := g) rfl (j * 4 + c) u ((cellsP_get l j c hj hc).trans hu)
   rwa [Addr.add_lit, Nat.zero_add] at this
  refine ⟨_, c, rfl, .inr ⟨g, 0, rfl, (GrowP.lt hh g rfl).2, fun j hj => ?_⟩⟩
  rw [Nat.zero_add]
  exact ⟨key j hj 0 (by omega) _ rfl, key j hj 1 (by omega) _ rfl, key j hj 2 (by omega) _ rfl, key j hj 3 (by omega) _ rfl⟩
theorem wpList_appP {ops : Array Oper} {rest : List Oper} {o : Oper} {a : Act} {Q : Exit → Act → World → Prop} (w : World) (hgd : o.guard = none) (s x : Operand)
 (ho : o.op = .call { callee := .builtin .append, args := #[s, x], argTypes := #[167, 167] })
 (B : Nat) (v : Value) (l : List Py) (hs : a.eval s = v) (hown : GrowP w B v l) (b c : Nat) (p : Py) (hx : a.eval x = .slice (some ⟨b, 0, none⟩) 1 c)
 (h0 : w.cell? ⟨b, 0, none⟩ = some (.string p.acc)) (h1 : w.cell? ⟨b, 1, none⟩ = some (.string p.nam)) (h2 : w.cell? ⟨b, 2, none⟩ = some (.int .i64 p.mon)) (h3 : w.cell? ⟨b, 3, none⟩ = some (.int .i64 p.ref))
 (hb : l.length ≤ 1000) (hB : B ≤ w.heap.size)
 (h : ∀ v' w', GrowP w' B v' (l ++ [p]) → w.grownBy w' v.ownBlock → (v'.ownBlock = v.ownBlock ∨ v'.ownBlock = some w.heap.size) → Below B w w' → wpList Tryz.prog ops Q rest (a.put o.dst v') w') :
 wpList Tryz.prog ops Q (o :: rest) a w := by
 obtain ⟨i0, hi, hz0, hz1, hz2⟩ := info_parts py_info
 have hnews : ∀ j u, (encP p)[j]? = some u → w.cell? ((⟨b, 0, none⟩ : Addr).add j) = some u := by
  intro j u hu
  rw [Addr.add_lit, Nat.zero_add]
  match j with
  | 0 => simp [encP] at hu; subst hu; exact h0
  | 1 => simp [encP] at hu; subst hu; exact h1
  | 2 => simp [encP] at hu; subst hu; exact h2
  | 3 => simp [encP] at hu; subst hu; exact h3
  | j + 4 => simp [encP] at hu
 obtain ⟨v', w', hr, r2, r3, _, r5⟩ := run_append_own_at (P := Tryz.prog) w B 167 o.type 166 i0 _ 4 48 Tryz.underlying167 hi hz0 hz1 hz2 rfl (by decide) v l.length (cellsP l) hown ⟨b, 0, none⟩ 1 c (encP p) rfl hnews (by intro u hu; simp [encP] at hu; rcases hu with rfl | rfl | rfl | rfl <;> rfl) (by unfold maxLen; omega) (by omega) hB
 have r2' : GrowP w' B v' (l ++ [p]) := by
  unfold GrowP
  rw [List.length_append, cellsP_append]
  simpa [cellsP] using r2
 refine wpList_plain hgd fun _ hK => ?_
 unfold Oper.wp execOp
 simp only [ho, resolve, invoke, builtin, Sem.run_bind, Sem.run_pure, Result.andThen_ok, List.map_toArray, List.map_cons, List.map_nil, hs, hx, hr]
 exact hK _ _ (h v' w' r2' r3 r5 ((Below.refl B w).grown r3 hB fun k hk => (GrowP.lt hown k hk).1))
theorem Apart.appP {w : World} {B : Nat} {v v' u : Value} {l : List Py} (ha : Apart u v) (hu : GrowP w B u l) (h : v'.ownBlock = v.ownBlock ∨ v'.ownBlock = some w.heap.size) : Apart u v' := by
 unfold Apart at *
 rcases h with h | h
 ·rw [h]; exact ha
 ·rw [h]
  cases hv : u.ownBlock with
  | none => exact .inl rfl
  | some k =>
    right; right
    have := hu.lt k hv
    intro e
    cases e
    omega
def metI (z : List Int) (x : Int) : Nat → Bool
 | 0 => false
 | k + 1 => metI z x k || nth z k == x
def selP (l : List Py) (P : Int → Bool) : Nat → List Py
 | 0 => []
 | k + 1 => selP l P k ++ if P (pnth l k).ref = true then [pnth l k] else []
theorem selP_yes {l : List Py} {P : Int → Bool} {k : Nat} (h : P (pnth l k).ref = true) : selP l P (k + 1) = selP l P k ++ [pnth l k] := by rw [selP, if_pos h]
theorem selP_no {l : List Py} {P : Int → Bool} {k : Nat} (h : P (pnth l k).ref = false) : selP l P (k + 1) = selP l P k := by rw [selP, if_neg (by rw [h]; simp), List.append_nil]
theorem selP_len (l : List Py) (P : Int → Bool) : ∀ k, (selP l P k).length ≤ k
 | 0 => Nat.le_refl _
 | k + 1 => by
   have := selP_len l P k
   rw [selP, List.length_append]
   split <;> simp <;> omega
def badI (l : List Py) (n : Nat) (z : List Int) (i : Nat) : Int := if metR l (nth z i) n = true then (if metI z (nth z i) i = true then 6 else 0) else 5
theorem badI_none {l : List Py} {n : Nat} {z : List Int} {i : Nat} (h : metR l (nth z i) n = false) : badI l n z i = 5 := by unfold badI; rw [h]; rfl
theorem badI_twice {l : List Py} {n : Nat} {z : List Int} {i : Nat} (h : metR l (nth z i) n = true) (h2 : metI z (nth z i) i = true) : badI l n z i = 6 := by unfold badI; rw [h, h2]; rfl
theorem badI_ok {l : List Py} {n : Nat} {z : List Int} {i : Nat} (h : metR l (nth z i) n = true) (h2 : metI z (nth z i) i = false) : badI l n z i = 0 := by unfold badI; rw [h, h2]; rfl
def firstI (l : List Py) (n : Nat) (z : List Int) : Nat → Int
 | 0 => 0
 | k + 1 => if firstI l n z k = 0 then badI l n z k else firstI l n z k
theorem firstI_ok {l : List Py} {n : Nat} {z : List Int} : ∀ {k : Nat}, (∀ j, j < k → badI l n z j = 0) → firstI l n z k = 0
 | 0, _ => rfl
 | k + 1, h => by rw [firstI, firstI_ok (k := k) (fun j hj => h j (by omega)), if_pos rfl, h k (by omega)]
theorem firstI_at {l : List Py} {n : Nat} {z : List Int} {k : Nat} (h : ∀ j, j < k → badI l n z j = 0) (hk : badI l n z k ≠ 0) : ∀ {m : Nat}, k < m → firstI l n z m = badI l n z k
 | 0, hn => by omega
 | m + 1, hn => by
   by_cases e : k = m
   ·subst e; rw [firstI, firstI_ok h, if_pos rfl]
   ·rw [firstI, firstI_at h hk (m := m) (by omega), if_neg hk]
theorem firstI_zero {l : List Py} {n : Nat} {z : List Int} : ∀ {m : Nat}, firstI l n z m = 0 → ∀ j, j < m → badI l n z j = 0
 | 0, _, j, hj => by omega
 | m + 1, h, j, hj => by
   rw [firstI] at h
   by_cases h0 : firstI l n z m = 0
   ·rw [if_pos h0] at h
    by_cases e : j = m
    ·subst e; exact h
    ·exact firstI_zero h0 j (by omega)
   ·rw [if_neg h0] at h; exact absurd h h0
def rejE (l : List Py) (n : Nat) (z : List Int) (m : Nat) : Int := if payE l n = 0 then firstI l n z m else payE l n
theorem rejE_pay {l : List Py} {n : Nat} {z : List Int} {m : Nat} (h : payE l n ≠ 0) : rejE l n z m = payE l n := if_neg h
theorem rejE_ref {l : List Py} {n : Nat} {z : List Int} {m : Nat} (h : payE l n = 0) : rejE l n z m = firstI l n z m := if_pos h
end Go.Proofs.YtkalfdjmklakdaaGreatDoor.Cal.Bnk
namespace Go.Proofs.YtkalfdjmklakdaaGreatDoor.Cal.Bnk
open Go.RowKit Go.Maps Go.WideMaps
theorem MapI.kept {w w' : World} {b n c : Nat} {g : Int → Option Int} {row : Option Nat} (h : MapI w b n g c) (hg : w.grownBy w' row) (hr : some b ≠ row) : MapI w' b n g c := by
 have hlt := h.lt
 obtain ⟨D, ⟨es, clock, hbk, h3⟩, h2⟩ := h
 exact ⟨D, ⟨es, clock, by rw [hg.block b hlt hr]; exact hbk, h3⟩, h2⟩
def oneI (z : List Int) (k : Nat) : Int → Option Int := fun x => if metI z x k = true then some 1 else none
theorem oneI_no {z : List Int} {k : Nat} {x : Int} (h : metI z x k = false) : oneI z k x = none := by unfold oneI; rw [h]; rfl
theorem oneI_yes {z : List Int} {k : Nat} {x : Int} (h : metI z x k = true) : oneI z k x = some 1 := by unfold oneI; rw [h]; rfl
theorem oneI_succ (z : List Int) (k : Nat) : oneI z (k + 1) = fun x => if x = nth z k then some 1 else oneI z k x := by
 funext x
 unfold oneI
 rw [metI]
 by_cases e : x = nth z k
 ·rw [if_pos e, e]; simp
 ·rw [if_neg e]
  have : (nth z k == x) = false := by simpa using fun q => e q.symm
  rw [this, Bool.or_false]
theorem Came.openI {w : World} {a : Option Addr} {l : List Int} (h : Came w a l) {n : Nat} (hn : l.length = n) (h0 : 0 < n) : ∃ b off, a = some ⟨b, off, none⟩ ∧ b < w.heap.size ∧ ∀ w', Below w.heap.size w w' → ∀ k, k < n → w'.cell? ⟨b, off + k, none⟩ = some (.int .i64 (nth l k)) := by
 rcases h with h | ⟨b, off, rfl, h⟩
 ·omega
 ·exact ⟨b, off, rfl, h.1, fun w' hb k hk => (h.below hb h.1).2 k (by omega)⟩
def RejRet (w w' : World) (e : Ending) (l : List Py) (n : Nat) (z : List Int) (m : Nat) : Prop := ∃ lv rv, e = .returned (.tuple #[lv, rv, .int .i64 (rejE l n z m)]) ∧
 ((rejE l n z m ≠ 0 ∧ lv = .slice none 0 0 ∧ rv = .slice none 0 0) ∨ (rejE l n z m = 0 ∧ GrowP w' w.heap.size lv (selP l (fun x => !metI z x m) n) ∧ GrowP w' w.heap.size rv (selP l (fun x => metI z x m) n))) ∧ Below w.heap.size w w'
end Go.Proofs.YtkalfdjmklakdaaGreatDoor.Cal.Bnk
namespace Go.Proofs.YtkalfdjmklakdaaGreatDoor.Cal.Bnk
open Go.RowKit
def bgBody : ByteArray := ⟨#[49, 50, 51, 52, 53, 54, 55, 56, 57, 48]⟩
theorem bg_body : bodyB bgBody = true := by decide +kernel
end Go.Proofs.YtkalfdjmklakdaaGreatDoor.Cal.Bnk
namespace Go.Proofs.YtkalfdjmklakdaaGreatDoor.Cal.Bnk
open Go.RowKit
def sumL : List Py → Int
 | [] => 0
 | p :: l => p.mon + sumL l
theorem sumL_append : ∀ l m : List Py, sumL (l ++ m) = sumL l + sumL m
 | [], m => by simp [sumL]
 | p :: l, m => by rw [List.cons_append, sumL, sumL, sumL_append l m]; omega
theorem take_snoc {l : List Py} {k : Nat} (h : k < l.length) : l.take (k + 1) = l.take k ++ [pnth l k] := by
 rw [List.take_add_one, List.getElem?_eq_getElem h]
 simp [pnth, List.getD_eq_getElem?_getD, h]
def MonB (l : List Py) : Prop := ∀ j, j < l.length → 0 ≤ (pnth l j).mon ∧ (pnth l j).mon ≤ 1000000000000
theorem sumL_bd {l : List Py} (h : MonB l) : ∀ k, k ≤ l.length → 0 ≤ sumL (l.take k) ∧ sumL (l.take k) ≤ 1000000000000 * k
 | 0, _ => by simp [sumL]
 | k + 1, hk => by
   have ih := sumL_bd h k (by omega)
   have := h k (by omega)
   rw [take_snoc (by omega), sumL_append]
   simp [sumL]
   omega
def cntB (l : List Py) (P : Int → Bool) : Nat → Nat
 | 0 => 0
 | k + 1 => cntB l P k + if P (pnth l k).ref = true then 1 else 0
theorem selP_cnt (l : List Py) (P : Int → Bool) : ∀ k, (selP l P k).length = cntB l P k
 | 0 => rfl
 | k + 1 => by
   rw [selP, cntB, List.length_append, selP_cnt l P k]
   split <;> simp
theorem cntB_not (l : List Py) (P : Int → Bool) : ∀ k, cntB l (fun x => !P x) k + cntB l P k = k
 | 0 => rfl
 | k + 1 => by
   have := cntB_not l P k
   rw [cntB, cntB]
   cases h : P (pnth l k).ref <;> simp <;> omega
theorem cntB_one (l : List Py) (y : Int) : ∀ k, dupB l k = false → cntB l (fun x => y == x) k = if metR l y k = true then 1 else 0
 | 0, _ => rfl
 | k + 1, hd => by
   rw [dupB, Bool.or_eq_false_iff] at hd
   rw [cntB, cntB_one l y k hd.1, metR]
   by_cases e : (pnth l k).ref = y
   ·have h1 : (y == (pnth l k).ref) = true := by simpa using e.symm
    have h2 : ((pnth l k).ref == y) = true := by simpa using e
    rw [e] at hd
    rw [hd.2, h1, h2]
    rfl
   ·have h1 : (y == (pnth l k).ref) = false := by simpa using fun q => e q.symm
    have h2 : ((pnth l k).ref == y) = false := by simpa using e
    rw [h1, h2, Bool.or_false]
    simp
theorem cntB_or (l : List Py) (P Q : Int → Bool) (h : ∀ x, P x = true → Q x = false) : ∀ k, cntB l (fun x => P x || Q x) k = cntB l P k + cntB l Q k
 | 0 => rfl
 | k + 1 => by
   rw [cntB, cntB, cntB, cntB_or l P Q h k]
   cases h1 : P (pnth l k).ref
   ·simp; omega
   ·rw [h _ h1]; simp; omega
theorem cnt_refs {l : List Py} {n : Nat} {z : List Int} (hd : dupB l n = false) : ∀ m, (∀ j, j < m → badI l n z j = 0) → cntB l (fun x => metI z x m) n = m
 | 0, _ => by
   have : ∀ k, cntB l (fun x => metI z x 0) k = 0 := by
    intro k
    induction k with
    | zero => rfl
    | succ q ih => rw [cntB, ih]; rfl
   exact this n
 | m + 1, h => by
   have ih := cnt_refs hd m (fun j hj => h j (by omega))
   have hb := h m (by omega)
   have hmet : metR l (nth z m) n = true := by
    cases q : metR l (nth z m) n
    ·rw [badI_none q] at hb; omega
    ·rfl
   have hnew : metI z (nth z m) m = false := by
    cases q : metI z (nth z m) m
    ·rfl
    ·rw [badI_twice hmet q] at hb; omega
   have e : (fun x => metI z x (m + 1)) = fun x => (fun x => metI z x m) x || (fun x => nth z m == x) x := rfl
   rw [e, cntB_or l _ _ (fun x hx => by
    have : x ≠ nth z m := fun q => by rw [q, hnew] at hx; cases hx
    simpa using fun q : nth z m = x => this q.symm), ih, cntB_one l _ n hd, hmet]
   rfl
theorem sum_sel {l : List Py} (P : Int → Bool) : ∀ k, k ≤ l.length → sumL (selP l (fun x => !P x) k) + sumL (selP l P k) = sumL (l.take k)
 | 0, _ => by simp [selP, sumL]
 | k + 1, hk => by
   have ih := sum_sel (l := l) P k (by omega)
   rw [take_snoc (by omega), selP, selP, sumL_append, sumL_append, sumL_append, ← ih]
   cases h : P (pnth l k).ref <;> simp [sumL] <;> omega
theorem sel_mem {l : List Py} {P : Int → Bool} : ∀ {k : Nat} {p : Py}, p ∈ selP l P k → ∃ j, j < k ∧ p = pnth l j
 | 0, p, h => by simp [selP] at h
 | k + 1, p, h => by
   rw [selP, List.mem_append] at h
   rcases h with h | h
   ·obtain ⟨j, hj, e⟩ := sel_mem h
    exact ⟨j, by omega, e⟩
   ·split at h
    ·simp at h
     exact ⟨k, by omega, h⟩
    ·simp at h
theorem pnth_mem {l : List Py} {j : Nat} (h : j < l.length) : pnth l j ∈ l := by
 unfold pnth
 rw [List.getD_eq_getElem?_getD, List.getElem?_eq_getElem h]
 exact List.getElem_mem h
theorem mon_of {l : List Py} {n : Nat} (h : ∀ j, j < n → wrongP (pnth l j) = 0) (j : Nat) (hj : j < n) : 0 ≤ (pnth l j).mon ∧ (pnth l j).mon ≤ 1000000000000 := by
 have := (wrongP_zero (h j hj)).2.2.1
 omega
theorem monB_sel {l : List Py} {n : Nat} (h : ∀ j, j < n → wrongP (pnth l j) = 0) (P : Int → Bool) : MonB (selP l P n) := by
 intro j hj
 obtain ⟨i, hi, e⟩ := sel_mem (pnth_mem hj)
 rw [e]
 exact mon_of h i hi
end Go.Proofs.YtkalfdjmklakdaaGreatDoor.Cal.Bnk
namespace Go.Proofs.YtkalfdjmklakdaaGreatDoor.Cal.Bnk
open Go.RowKit
def dayB (n : Int) : Bool := decide (0 ≤ n ∧ n ≤ 73048)
theorem dayB_iff {n : Int} : dayB n = true ↔ 0 ≤ n ∧ n ≤ 73048 := by unfold dayB; exact decide_eq_true_iff
theorem isDay_any (n : Int) (w : World) : Calls Tryz.prog 22 #[.int .i64 n] w fun e w' => e = .returned (.bool (dayB n)) ∧ w' = w := by
 by_cases h1 : 0 ≤ n
 ·have H : Hid (dayB n = decide (n ≤ 73048)) := by unfold Hid dayB; rw [Bool.eq_iff_iff]; simp [h1]
  go_enter Tryz.func22, Tryz.ntmps22
  go_wp2
  go_ret
  exact ⟨tret_bool H.out.symm, rfl⟩
 ·have H : Hid (dayB n = false) := decide_eq_false (by omega)
  have h1B : decide (0 ≤ n) = false := decide_eq_false h1
  go_enter Tryz.func22, Tryz.ntmps22
  go_wp2
  go_ret
  exact ⟨tret_bool H.out.symm, rfl⟩
theorem isDay_ref (n : Int) (w : World) : Calls Tryz.prog 37 #[.int .i64 n] w fun e w' => e = .returned (.bool (dayB n)) ∧ w' = w := by
 by_cases h1 : 0 ≤ n
 ·have H : Hid (dayB n = decide (n ≤ 73048)) := by unfold Hid dayB; rw [Bool.eq_iff_iff]; simp [h1]
  go_enter Tryz.func37, Tryz.ntmps37
  go_wp2
  go_ret
  exact ⟨tret_bool H.out.symm, rfl⟩
 ·have H : Hid (dayB n = false) := decide_eq_false (by omega)
  have h1B : decide (0 ≤ n) = false := decide_eq_false h1
  go_enter Tryz.func37, Tryz.ntmps37
  go_wp2
  go_ret
  exact ⟨tret_bool H.out.symm, rfl⟩
set_option maxRecDepth 100000 in
set_option maxHeartbeats 1000000 in
theorem sum_any (a : Option Addr) (n cap : Nat) (l : List Py) (w : World) (hc : CameP w a l) (hn : l.length = n) (hm : n ≤ 1000) (hb : MonB l) :
 Calls Tryz.prog 183 #[.slice a n cap] w fun e w' => e = .returned (.int .i64 (sumL l)) ∧ Below w.heap.size w w' := by
 have HO := Lib.hid (fun h0 => hc.open hn h0)
 have HN := Lib.hid hn
 have HMB := Lib.hid hb
 clear hc hn hb
 go_enter Tryz.func183, Tryz.ntmps183
 go_wp2_with fail
 go_loopw [3, 8] (fun v i wr => ∃ k : Nat, k ≤ n ∧ i = .int .i64 k ∧ v = .int .i64 (sumL (l.take k)) ∧ Below w.heap.size w wr) (fun _ i _ => n - (intOf i).toNat)
 case atStart => exact ⟨0, Nat.zero_le _, rfl, rfl, Below.refl _ _⟩
 case round =>
  obtain ⟨k, hk, rfl, rfl, hbw⟩ := hrel
  have HB := Lib.hid hbw
  clear hbw
  by_cases hlt : k < n
  ·have hlt' : (k : Int) < (n : Int) := by omega
   obtain ⟨b, off, rfl, hbl, hcell⟩ := HO.out (by omega)
   obtain ⟨x0, x1, x2, x3⟩ := hcell wr HB.out k hlt
   have HS : Hid (sumL (l.take (k + 1)) = sumL (l.take k) + (pnth l k).mon) := by unfold Hid; rw [take_snoc (by rw [HN.out]; exact hlt), sumL_append]; simp [sumL]
   have hb1 := sumL_bd HMB.out k (by rw [HN.out]; exact hk)
   have hb2 := HMB.out k (by rw [HN.out]; exact hlt)
   obtain ⟨s0, s1⟩ := hb1
   obtain ⟨m0, m1⟩ := hb2
   have s2 : sumL (l.take k) ≤ 1000000000000000 := by omega
   have HBX := Lib.hid (HB.out.alloc HB.out.size (.cells #[.string (pnth l k).acc, .string (pnth l k).nam, .int .i64 (pnth l k).mon, .int .i64 (pnth l k).ref] 166))
   clear hcell s1
   generalize sumL (l.take k) = S at *
   generalize (pnth l k).mon = mo at *
   go_wp2_with fail
   go_roundw
   case rel => exact ⟨k + 1, by omega, by go_num, by rw [HS.out], HBX.out⟩
   case measure => simp [intOf]; omega
  ·obtain rfl : n = k := by omega
   have HT : Hid (l.take n = l) := List.take_of_length_le (by rw [HN.out]; exact Nat.le_refl _)
   rw [HT.out]
   go_wp2_with fail
   go_ret
   exact ⟨rfl, HB.out⟩
def term (l : List Py) (k : Nat) : Int := ((k : Int) + 1) * ((pnth l k).mon + (pnth l k).ref + numN (pnth l k).acc (pnth l k).acc.size)
def chkS (l : List Py) (day : Int) : Nat → Int
 | 0 => day
 | k + 1 => chkS l day k + term l k
def chkR (l : List Py) (day : Int) : Nat → Int
 | 0 => day
 | k + 1 => chkR l day k + term l k % 9999999967
def chkN (l : List Py) (day : Int) (n : Nat) : Int := chkS l day n % 9999999967
def OkP (p : Py) : Prop := (accB p.acc = true ∧ nameB p.nam = true) ∧ (1 ≤ p.mon ∧ p.mon ≤ 1000000000000) ∧ 0 ≤ p.ref ∧ p.ref ≤ 999999
theorem OkP.num {p : Py} (h : OkP p) : 0 ≤ numN p.acc p.acc.size ∧ numN p.acc p.acc.size < 1000000000000000 ∧ p.acc.size = 12 ∧ allT digB p.acc = true := by
 obtain ⟨hd, hz, _⟩ := accB_iff.1 h.1.1
 have := numN_cap (s := p.acc) (k := p.acc.size) (by omega) (fun j hj => allT_iff.1 hd j hj)
 exact ⟨this.1, this.2, hz, hd⟩
theorem term_bd {l : List Py} {k : Nat} (h : OkP (pnth l k)) (hk : k < 300) : 0 ≤ term l k ∧ term l k ≤ 301000000000000000 := by
 obtain ⟨n0, n1, _, _⟩ := h.num
 obtain ⟨_, ⟨m0, m1⟩, r0, r1⟩ := h
 unfold term
 generalize numN (pnth l k).acc (pnth l k).acc.size = N at *
 have t0 : 0 ≤ (pnth l k).mon + (pnth l k).ref + N := by omega
 have t1 : (pnth l k).mon + (pnth l k).ref + N ≤ 1001001001000000 := by omega
 generalize (pnth l k).mon + (pnth l k).ref + N = t at *
 refine ⟨Int.mul_nonneg (by omega) t0, ?_⟩
 have := Int.mul_le_mul (show (k : Int) + 1 ≤ 300 by omega) t1 t0 (by omega)
 omega
theorem term_fine {l : List Py} {k : Nat} (h : OkP (pnth l k)) (hk : k < 300) : 0 ≤ term l k ∧ term l k ≤ 300300300300000 * 300 := by
 have := term_bd h hk
 obtain ⟨n0, n1, hz, hd⟩ := h.num
 refine ⟨this.1, ?_⟩
 have hn12 : numN (pnth l k).acc (pnth l k).acc.size < 1000000000000 := by
  rw [hz]
  have h12 := (numN_bd (s := (pnth l k).acc) (k := 12) (fun j hj => allT_iff.1 hd j (by omega))).2
  have e : (10 : Int) ^ 12 = 1000000000000 := by decide
  omega
 obtain ⟨_, ⟨m0, m1⟩, r0, r1⟩ := h
 unfold term
 generalize numN (pnth l k).acc (pnth l k).acc.size = N at *
 have t0 : 0 ≤ (pnth l k).mon + (pnth l k).ref + N := by omega
 have t1 : (pnth l k).mon + (pnth l k).ref + N ≤ 2000001000000 := by omega
 generalize (pnth l k).mon + (pnth l k).ref + N = t at *
 have := Int.mul_le_mul (show (k : Int) + 1 ≤ 300 by omega) t1 t0 (by omega)
 omega
theorem chkS_bd {l : List Py} {day : Int} {n : Nat} (h : ∀ j, j < n → OkP (pnth l j)) (hn : n ≤ 300) (hd : 0 ≤ day ∧ day ≤ 73048) : ∀ k, k ≤ n → 0 ≤ chkS l day k ∧ chkS l day k ≤ 73048 + 601000000000000 * k
 | 0, _ => by simp [chkS]; omega
 | k + 1, hk => by
   have ih := chkS_bd h hn hd k (by omega)
   have ht := h k (by omega)
   obtain ⟨n0, n1, hz, hdd⟩ := ht.num
   have hn12 : numN (pnth l k).acc (pnth l k).acc.size < 1000000000000 := by
    rw [hz]
    have h12 := (numN_bd (s := (pnth l k).acc) (k := 12) (fun j hj => allT_iff.1 hdd j (by omega))).2
    have e : (10 : Int) ^ 12 = 1000000000000 := by decide
    omega
   obtain ⟨_, ⟨m0, m1⟩, r0, r1⟩ := ht
   have htm : 0 ≤ term l k ∧ term l k ≤ 601000000000000 := by
    unfold term
    generalize numN (pnth l k).acc (pnth l k).acc.size = N at *
    have t0 : 0 ≤ (pnth l k).mon + (pnth l k).ref + N := by omega
    have t1 : (pnth l k).mon + (pnth l k).ref + N ≤ 2000001000000 := by omega
    generalize (pnth l k).mon + (pnth l k).ref + N = t at *
    refine ⟨Int.mul_nonneg (by omega) t0, ?_⟩
    have := Int.mul_le_mul (show (k : Int) + 1 ≤ 300 by omega) t1 t0 (by omega)
    omega
   rw [chkS]
   omega
theorem chkR_mod {l : List Py} {day : Int} : ∀ k, chkR l day k % 9999999967 = chkS l day k % 9999999967
 | 0 => rfl
 | k + 1 => by
   have ih := chkR_mod (l := l) (day := day) k
   rw [chkR, chkS]
   omega
theorem chkR_bd {l : List Py} {day : Int} (hd : 0 ≤ day ∧ day ≤ 73048) : ∀ k, 0 ≤ chkR l day k ∧ chkR l day k ≤ 73048 + 9999999967 * k
 | 0 => by simp [chkR]; omega
 | k + 1 => by
   have ih := chkR_bd (l := l) hd k
   rw [chkR]
   omega
theorem chkN_bd (l : List Py) (day : Int) (n : Nat) : 0 ≤ chkN l day n ∧ chkN l day n < 9999999967 := by unfold chkN; omega
set_option maxRecDepth 100000 in
set_option maxHeartbeats 2000000 in
theorem checkNumber_any (day : Int) (a : Option Addr) (n cap : Nat) (l : List Py) (w : World) (hc : CameP w a l) (hn : l.length = n) (hm : n ≤ 300) (hok : ∀ j, j < n → OkP (pnth l j)) (hd : 0 ≤ day ∧ day ≤ 73048) :
 Calls Tryz.prog 185 #[.int .i64 day, .slice a n cap] w fun e w' => e = .returned (.int .i64 (chkN l day n)) ∧ Below w.heap.size w w' := by
 have HO := Lib.hid (fun h0 => hc.open hn h0)
 have HOK := Lib.hid hok
 have HBD := Lib.hid (chkS_bd hok hm hd)
 clear hc hn hok hd
 go_enter Tryz.func185, Tryz.ntmps185
 go_wp2_with fail
 go_loopw [5, 11] (fun v i wr => ∃ k : Nat, k ≤ n ∧ i = .int .i64 k ∧ v = .int .i64 (chkS l day k) ∧ Below w.heap.size w wr) (fun _ i _ => n - (intOf i).toNat)
 case atStart => exact ⟨0, Nat.zero_le _, rfl, rfl, Below.refl _ _⟩
 case round =>
  obtain ⟨k, hk, rfl, rfl, hbw⟩ := hrel
  have HB := Lib.hid hbw
  clear hbw
  by_cases hlt : k < n
  ·have hlt' : (k : Int) < (n : Int) := by omega
   obtain ⟨b, off, rfl, hbl, hcell⟩ := HO.out (by omega)
   obtain ⟨x0, x1, x2, x3⟩ := hcell wr HB.out k hlt
   have hokk := HOK.out k hlt
   obtain ⟨n0, n1, hz, hdd⟩ := hokk.num
   have HNUM := Lib.hid (fun w => number_any (pnth l k).acc w hdd (by omega))
   have hS := HBD.out k hk
   have hS2 := HBD.out (k + 1) (by omega)
   have htb := term_fine hokk (by omega)
   obtain ⟨_, ⟨m0, m1⟩, r0, r1⟩ := hokk
   have HC : Hid (chkS l day (k + 1) = chkS l day k + term l k) := rfl
   rw [HC.out] at hS2
   have HTM : Hid (term l k = ((k : Int) + 1) * ((pnth l k).mon + (pnth l k).ref + numN (pnth l k).acc (pnth l k).acc.size)) := rfl
   have HBX := Lib.hid (HB.out.alloc HB.out.size (.cells #[.string (pnth l k).acc, .string (pnth l k).nam, .int .i64 (pnth l k).mon, .int .i64 (pnth l k).ref] 166))
   obtain ⟨y0, y1, y2, y3⟩ := py_box (Below.refl (wr.alloc (.cells #[.string (pnth l k).acc, .string (pnth l k).nam, .int .i64 (pnth l k).mon, .int .i64 (pnth l k).ref] 166)).heap.size (wr.alloc (.cells #[.string (pnth l k).acc, .string (pnth l k).nam, .int .i64 (pnth l k).mon, .int .i64 (pnth l k).ref] 166)))
   clear hcell hbl hz hdd
   generalize numN (pnth l k).acc (pnth l k).acc.size = N at *
   generalize term l k = tm at *
   generalize chkS l day k = S at *
   generalize (pnth l k).ref = rf at *
   generalize (pnth l k).acc = ac at *
   generalize (pnth l k).nam = nm at *
   generalize (pnth l k).mon = mo at *
   obtain ⟨s1, hs1⟩ : ∃ s1, s1 = mo + rf := ⟨_, rfl⟩
   obtain ⟨s2, hs2⟩ : ∃ s2, s2 = s1 + N := ⟨_, rfl⟩
   have hw0 : IntKind.i64.wrap ((k : Int) + 1) = (k : Int) + 1 := IntWalk.i64_in _ (by omega)
   have hw1 : IntKind.i64.wrap (mo + rf) = s1 := by rw [hs1]; exact IntWalk.i64_in _ (by omega)
   have hw2 : IntKind.i64.wrap (s1 + N) = s2 := by rw [hs2]; exact IntWalk.i64_in _ (by omega)
   have hmul : ((k : Int) + 1) * s2 = tm := by rw [hs2, hs1, HTM.out]
   have hw3 : IntKind.i64.wrap (((k : Int) + 1) * s2) = tm := by rw [hmul]; exact IntWalk.i64_in _ (by omega)
   have hw4 : IntKind.i64.wrap (S + tm) = S + tm := IntWalk.i64_in _ (by omega)
   have hb1 : mo + rf = s1 := hs1.symm
   have hb2 : s1 + N = s2 := hs2.symm
   clear HTM hs1 hs2
   go_wp2_with fail
   clear x0 x1 x2 x3
   have k0 := cell_regrown y0
   have k1 := cell_regrown y1
   have k2 := cell_regrown y2
   have k3 := cell_regrown y3
   refine wp_region_quiet_below (by kernel_rfl) (by kernel_rfl) ?_
   repeat (go_big_quiet_step (exact Calls.regrown_of (HNUM.out _)))
   refine wpQuiet_nil ?_
   intro _ hw'
   obtain ⟨⟨dq, osq⟩, hw''⟩ := hw'
   subst hw''
   go_wp2_with fail
   go_roundw
   case rel => exact ⟨k + 1, by omega, by go_num, by rw [HC.out], HBX.out.trans ((below_regrown _ dq osq).mono HBX.out.size)⟩
   case measure => simp [intOf]; omega
  ·obtain rfl : n = k := by omega
   have HR : Hid (chkN l day n = chkS l day n % 9999999967) := rfl
   have hS := (HBD.out n hk).1
   generalize chkS l day n = S at *
   have hmod : S.tmod 9999999967 = S % 9999999967 := Int.tmod_eq_emod_of_nonneg hS
   go_wp2_with fail
   go_ret
   exact ⟨tret_int (by rw [HR.out]), HB.out⟩
theorem okP_of {l : List Py} {n : Nat} (h : ∀ j, j < n → wrongP (pnth l j) = 0) (j : Nat) (hj : j < n) : OkP (pnth l j) := by
 have := wrongP_zero (h j hj)
 exact ⟨⟨this.1, this.2.1⟩, this.2.2⟩
end Go.Proofs.YtkalfdjmklakdaaGreatDoor.Cal.Bnk
namespace Go.Proofs.YtkalfdjmklakdaaGreatDoor.Cal.Bnk
open Go.RowKit
def headL (day n tot : Nat) : List UInt8 := [70] ++ sfx day 5 ++ sfx n 3 ++ sfx tot 15 ++ [10]
def payL (p : Py) : List UInt8 := [80] ++ p.acc.data.toList ++ sfx p.mon.toNat 13 ++ sfx p.ref.toNat 6 ++ p.nam.data.toList ++ List.replicate (12 - p.nam.size) 46 ++ [10]
def linesL (l : List Py) : Nat → List UInt8
 | 0 => []
 | k + 1 => linesL l k ++ payL (pnth l k)
def endL (c : Nat) : List UInt8 := [69] ++ sfx c 10 ++ [10]
def fileL (day : Int) (l : List Py) (n : Nat) : List UInt8 := headL day.toNat n (sumL l).toNat ++ linesL l n ++ endL (chkN l day n).toNat
def fileT (day : Int) (l : List Py) (n : Nat) : ByteArray := ⟨(fileL day l n).toArray⟩
theorem headL_len (a b c : Nat) : (headL a b c).length = 25 := by simp [headL, sfx_len]
theorem OkP.nam {p : Py} (h : OkP p) : 1 ≤ p.nam.size ∧ p.nam.size ≤ 12 := by
 have := h.1.2
 unfold nameB at this
 rw [Bool.and_eq_true, decide_eq_true_iff] at this
 exact this.2
theorem payL_len {p : Py} (h : OkP p) : (payL p).length = 45 := by
 have h1 := h.num.2.2.1
 have h2 := h.nam
 rw [size_toList] at h1
 have e : p.nam.size = p.nam.data.toList.length := size_toList _
 simp only [payL, List.length_append, sfx_len, List.length_replicate, List.length_cons, List.length_nil, h1]
 omega
theorem linesL_len {l : List Py} {n : Nat} (h : ∀ j, j < n → OkP (pnth l j)) : ∀ k, k ≤ n → (linesL l k).length = 45 * k
 | 0, _ => rfl
 | k + 1, hk => by rw [linesL, List.length_append, linesL_len h k (by omega), payL_len (h k (by omega))]; omega
theorem endL_len (c : Nat) : (endL c).length = 12 := by simp [endL, sfx_len]
def Bld (w : World) (B b : Nat) (l : List UInt8) : Prop := Lib.IsBuilderF 206 5 B b (Lib.byteCells l) w
theorem Bld.fresh (w : World) : Bld (w.alloc (.cells #[.pointer none, .slice none 0 0] 206)) w.heap.size w.heap.size [] := by
 exact .inl ⟨Nat.le_refl _, .slice none 0 0, (MapKept.heap_alloc w _).1, World.ownsRowF_nil _ _ _ _, by simp [Value.ownBlock]⟩
theorem Bld.below {w w' : World} {B b : Nat} {l : List UInt8} (h : Bld w B b l) (hb : Below w.heap.size w w') : Bld w' B b l := by
 have hg : w.grownBy w' (none : Option Nat) := ⟨hb.os, hb.tape, hb.output, hb.size, fun k hk _ => hb.block k hk⟩
 have key : ∀ p, Lib.BuilderAtF 206 5 B b p (Lib.byteCells l) w → Lib.BuilderAtF 206 5 B b p (Lib.byteCells l) w' := by
  rintro p ⟨h1, v, h2, h3, h4⟩
  have hlt : b < w.heap.size := (Array.getElem?_eq_some_iff.1 h2).1
  refine ⟨h1, v, by rw [hb.block b hlt]; exact h2, h3.kept hg ?_, h4⟩
  cases v.ownBlock with
  | none => exact .inl rfl
  | some k => exact .inr (Option.some_ne_none k)
 rcases h with h | h
 ·exact .inl (key _ h)
 ·exact .inr (key _ h)
theorem Bld.lt {w : World} {B b : Nat} {l : List UInt8} (h : Bld w B b l) : b < w.heap.size := by
 rcases h with ⟨_, v, h2, _⟩ | ⟨_, v, h2, _⟩ <;> exact (Array.getElem?_eq_some_iff.1 h2).1
theorem write_any (B b : Nat) (l : List UInt8) (s : ByteArray) (w : World) (h : Bld w B b l) (hl : l.length + s.size ≤ 1000000) (hB : B ≤ w.heap.size) :
 Calls Tryz.prog 181 #[.pointer (some ⟨b, 0, none⟩), .string s] w fun e w' => e = .returned (.tuple #[.int .i64 s.size, .nilIface]) ∧ Bld w' B b (l ++ s.data.toList) ∧ Below B w w' ∧ Lib.OthersKept 5 (some b) w w' := by
 refine (sh_WriteString_k B b (Lib.byteCells l) s w h (by rw [Lib.byteCells_length]; omega) hB).mono ?_
 rintro e w' ⟨he, h1, h2, h3⟩
 refine ⟨he, .inr ?_, h2, h3⟩
 rw [Lib.byteCells_append]
 exact h1
theorem string_any (B b : Nat) (l : List UInt8) (w : World) (h : Bld w B b l) (hB : B ≤ w.heap.size) :
 Calls Tryz.prog 186 #[.pointer (some ⟨b, 0, none⟩)] w fun e w' => e = .returned (.string ⟨l.toArray⟩) ∧ Below B w w' :=
 (sh_String_k B b l w h hB).mono fun _ _ ⟨h1, _, h2, _⟩ => ⟨h1, h2⟩
def PBox (w : World) (g : Nat) (p : Py) : Prop := w.heap[g]? = some (.cells #[.string p.acc, .string p.nam, .int .i64 p.mon, .int .i64 p.ref] 166 (0, 0))
theorem PBox.cells {w : World} {g : Nat} {p : Py} (h : PBox w g p) : w.cell? ⟨g, 0, none⟩ = some (.string p.acc) ∧ w.cell? ⟨g, 1, none⟩ = some (.string p.nam) ∧ w.cell? ⟨g, 2, none⟩ = some (.int .i64 p.mon) ∧ w.cell? ⟨g, 3, none⟩ = some (.int .i64 p.ref) := by
 unfold PBox at h
 refine ⟨?_, ?_, ?_, ?_⟩ <;> simp [World.cell?, h]
theorem PBox.lt {w : World} {g : Nat} {p : Py} (h : PBox w g p) : g < w.heap.size := (Array.getElem?_eq_some_iff.1 h).1
theorem PBox.below {w w' : World} {g : Nat} {p : Py} (h : PBox w g p) (hb : Below w.heap.size w w') : PBox w' g p := by
 unfold PBox
 rw [hb.block g h.lt]
 exact h
theorem PBox.others {w w' : World} {g b : Nat} {p : Py} (h : PBox w g p) (ho : Lib.OthersKept 5 (some b) w w') (hb : g ≠ b) : PBox w' g p :=
 ho g _ h (by intro e; cases e; exact hb rfl) (by intro c fz e; cases e)
theorem PBox.made (w : World) (p : Py) : PBox (w.alloc (.cells #[.string p.acc, .string p.nam, .int .i64 p.mon, .int .i64 p.ref] 166)) w.heap.size p := (MapKept.heap_alloc w _).1
theorem join_run {a b : ByteArray} (h : a.size + b.size ≤ 1000000) (w : World) : (Op.stringOp .add a b).run Tryz.prog w = .ok (.string (a ++ b)) w := run_string_add_sum w a b (by omega)
def prE (day : Int) (l : List Py) (n : Nat) : Int := if dayB day = true then payE l n else 3
def prT (day : Int) (l : List Py) (n : Nat) : ByteArray := if prE day l n = 0 then fileT day l n else nilT
theorem pr_day {day : Int} {l : List Py} {n : Nat} (h : dayB day = false) : prE day l n = 3 ∧ prT day l n = nilT := by
 have e : prE day l n = 3 := by unfold prE; rw [h]; rfl
 exact ⟨e, by unfold prT; rw [e]; rfl⟩
theorem pr_pay {day : Int} {l : List Py} {n : Nat} (h : dayB day = true) (h2 : payE l n ≠ 0) : prE day l n = payE l n ∧ prT day l n = nilT := by
 have e : prE day l n = payE l n := by unfold prE; rw [h]; rfl
 exact ⟨e, by unfold prT; rw [e, if_neg h2]⟩
theorem pr_ok {day : Int} {l : List Py} {n : Nat} (h : dayB day = true) (h2 : payE l n = 0) : prE day l n = 0 ∧ prT day l n = fileT day l n := by
 have e : prE day l n = 0 := by unfold prE; rw [h, h2]; rfl
 exact ⟨e, by unfold prT; rw [e, if_pos rfl]⟩
set_option maxRecDepth 100000 in
set_option maxHeartbeats 4000000 in
theorem Print_any (day : Int) (a : Option Addr) (n cap : Nat) (l : List Py) (w : World) (ht : Tab w) (hc : CameP w a l) (hf : ∀ j, j < n → FitP (pnth l j)) (hn : l.length = n) (hm : n ≤ 9223372036854775807) :
 Calls Tryz.prog 142 #[.int .i64 day, .slice a n cap] w fun e w' => e = .returned (.tuple #[.string (prT day l n), .int .i64 (prE day l n)]) ∧ Below w.heap.size w w' := by
 cases hd : dayB day
 ·rw [(pr_day hd).1, (pr_day hd).2]
  go_enter Tryz.func142, Tryz.ntmps142
  go_wp2_with (go_at_call 22; refine (isDay_any _ _).mono ?_; rintro e w' ⟨rfl, h'⟩; subst w'; rw [hd])
  go_ret2
  exact ⟨rfl, Below.refl _ _⟩
 ·have HCK := Lib.hid (checkPayments_any a n cap l w ht hc hf hn hm)
  have HT := Lib.hid ht
  have HC := Lib.hid hc
  have HN := Lib.hid hn
  clear ht hc hn hf
  by_cases hp : payE l n = 0
  ·rw [(pr_ok hd hp).1, (pr_ok hd hp).2]
   rw [hp] at HCK
   obtain ⟨h300, hall, _⟩ := payE_zero hp
   have HOK := Lib.hid (okP_of hall)
   have HMB : Hid (MonB l) := fun j hj => mon_of hall j (by rw [HN.out] at hj; exact hj)
   have hdd := dayB_iff.1 hd
   obtain ⟨dN, hdN⟩ : ∃ dN : Nat, day = (dN : Int) := ⟨day.toNat, by omega⟩
   have HSU := Lib.hid (fun w hc => sum_any a n cap l w hc HN.out (by omega) HMB.out)
   have HCN := Lib.hid (fun w hc => checkNumber_any day a n cap l w hc HN.out h300 HOK.out hdd)
   have hsb := sumL_bd HMB.out l.length (Nat.le_refl _)
   rw [List.take_length] at hsb
   have hcb := chkN_bd l day n
   obtain ⟨sN, hsN⟩ : ∃ sN : Nat, sumL l = (sN : Int) := ⟨(sumL l).toNat, by omega⟩
   obtain ⟨cN, hcN⟩ : ∃ cN : Nat, chkN l day n = (cN : Int) := ⟨(chkN l day n).toNat, by omega⟩
   have HFI : Hid (fileL day l n = headL dN n sN ++ linesL l n ++ endL cN) := by
    unfold Hid fileL
    rw [hsN, hcN, hdN]
    rfl
   have hs15 : sN < 10 ^ 15 := by
    have e : (10 : Nat) ^ 15 = 1000000000000000 := by decide
    rw [HN.out] at hsb
    omega
   have hc10 : cN < 10 ^ 10 := by
    have e : (10 : Nat) ^ 10 = 10000000000 := by decide
    omega
   have hd5 : dN < 10 ^ 5 := by
    have e : (10 : Nat) ^ 5 = 100000 := by decide
    omega
   have hn3 : n < 10 ^ 3 := by
    have e : (10 : Nat) ^ 3 = 1000 := by decide
    omega
   rw [hsN] at HSU
   rw [hcN] at HCN
   have HLL := Lib.hid (linesL_len HOK.out)
   have HFT : Hid (fileT day l n = ⟨(fileL day l n).toArray⟩) := rfl
   generalize fileT day l n = FT at *
   generalize fileL day l n = FL at *
   subst hdN
   clear hp hall hsb hcb hsN hcN
   go_enter Tryz.func142, Tryz.ntmps142
   go_wp2_with (go_at_call 22; refine (isDay_any _ _).mono ?_; rintro e w' ⟨rfl, h'⟩; subst w'; rw [hd])
   refine HCK.out.mono ?_
   rintro e w1 ⟨rfl, hb1⟩
   have HB1 := Lib.hid hb1
   have HBL := Lib.hid (Bld.fresh w1)
   have HB2 := Lib.hid (bbelow_box w1 (.cells #[.pointer none, .slice none 0 0] 206))
   clear hb1
   go_wp2_with fail
   refine (padded_k dN 5 5 rfl _ ((HT.out.below HB1.out).below HB2.out) (by omega) (by omega) hd5).mono ?_
   rintro e w2 ⟨rfl, hb2⟩
   have HBL2 := Lib.hid (HBL.out.below hb2)
   have HB3 := Lib.hid (HB2.out.trans (hb2.mono HB2.out.size))
   clear hb2 HBL
   have hz0 : (⟨#[70]⟩ : ByteArray).size + (padT dN 5).size ≤ 9223372036854775807 := by rw [padT_size]; decide
   go_wp2_with fail
   have HA1 : Hid (((⟨#[70]⟩ : ByteArray) ++ padT dN 5).data.toList = [70] ++ sfx dN 5) := by unfold Hid; rw [ba_append, padT_list]
   have hz1 : ((⟨#[70]⟩ : ByteArray) ++ padT dN 5).size = 6 := by rw [ByteArray.size_append, padT_size]; rfl
   generalize ((⟨#[70]⟩ : ByteArray) ++ padT dN 5) = A1 at *
   have hz1' : A1.size + (padT n 3).size ≤ 9223372036854775807 := by rw [padT_size, hz1]; omega
   have HZ1 := Lib.hid hz1
   clear hz1 hz0
   refine (padded_k n 3 3 rfl _ ((HT.out.below HB1.out).below HB3.out) (by omega) (by omega) hn3).mono ?_
   rintro e w3 ⟨rfl, hb3⟩
   have HBL3 := Lib.hid (HBL2.out.below hb3)
   have HB4 := Lib.hid (HB3.out.trans (hb3.mono HB3.out.size))
   clear hb3 HBL2
   go_wp2_with fail
   have HA2 : Hid ((A1 ++ padT n 3).data.toList = [70] ++ sfx dN 5 ++ sfx n 3) := by unfold Hid; rw [ba_append, padT_list, HA1.out]
   have hz2 : (A1 ++ padT n 3).size = 9 := by rw [ByteArray.size_append, padT_size, HZ1.out]
   generalize (A1 ++ padT n 3) = A2 at *
   have hz2' : A2.size + (padT sN 15).size ≤ 9223372036854775807 := by rw [padT_size, hz2]; omega
   have HZ2 := Lib.hid hz2
   clear hz2 hz1'
   refine (HSU.out _ ((HC.out.below HB1.out).below HB4.out)).mono ?_
   rintro e w4 ⟨rfl, hb4⟩
   have HBL4 := Lib.hid (HBL3.out.below hb4)
   have HB5 := Lib.hid (HB4.out.trans (hb4.mono HB4.out.size))
   clear hb4 HBL3
   go_wp2_with fail
   refine (padded_k sN 15 15 rfl _ ((HT.out.below HB1.out).below HB5.out) (by omega) (by omega) hs15).mono ?_
   rintro e w5 ⟨rfl, hb5⟩
   have HBL5 := Lib.hid (HBL4.out.below hb5)
   have HB6 := Lib.hid (HB5.out.trans (hb5.mono HB5.out.size))
   clear hb5 HBL4
   have hz3' : (A2 ++ padT sN 15).size + (⟨#[10]⟩ : ByteArray).size ≤ 9223372036854775807 := by rw [ByteArray.size_append, padT_size, HZ2.out]; decide
   go_wp2_with fail
   have HA3 : Hid ((A2 ++ padT sN 15 ++ (⟨#[10]⟩ : ByteArray)).data.toList = headL dN n sN) := by unfold Hid; rw [ba_append, ba_append, padT_list, HA2.out]; rfl
   have hz3 : (A2 ++ padT sN 15 ++ (⟨#[10]⟩ : ByteArray)).size = 25 := by rw [size_toList, HA3.out, headL_len]
   generalize (A2 ++ padT sN 15 ++ (⟨#[10]⟩ : ByteArray)) = A3 at *
   refine (write_any w1.heap.size w1.heap.size [] A3 _ HBL5.out (by rw [hz3]; simp) HB6.out.size).mono ?_
   rintro e w6 ⟨rfl, hbl6, hb6, _⟩
   have HBL6 : Hid (Bld w6 w1.heap.size w1.heap.size (headL dN n sN ++ linesL l 0)) := by
    unfold Hid
    rw [List.nil_append, HA3.out] at hbl6
    rw [linesL, List.append_nil]
    exact hbl6
   have HB7 := Lib.hid (HB6.out.trans hb6)
   clear hb6 hbl6 HBL5 hz3 hz3' hz2' HA1 HA2 HA3 HZ1 HZ2
   have HO := Lib.hid (fun h0 => (HC.out.below HB1.out).open HN.out h0)
   have HT1 := Lib.hid (HT.out.below HB1.out)
   go_wp2_with fail
   go_loopw [34] (fun i wr => ∃ k : Nat, k ≤ n ∧ i = .int .i64 k ∧ Bld wr w1.heap.size w1.heap.size (headL dN n sN ++ linesL l k) ∧ Below w1.heap.size w1 wr ∧ w1.heap.size < wr.heap.size) (fun i _ => n - (intOf i).toNat)
   case atStart => exact ⟨0, Nat.zero_le _, rfl, HBL6.out, HB7.out, HBL6.out.lt⟩
   case round =>
    clear HBL6 HB7
    obtain ⟨k, hk, rfl, hbl, hb, hsz⟩ := hrel
    have HBL := Lib.hid hbl
    have HB := Lib.hid hb
    clear hbl hb
    by_cases hlt : k < n
    ·have hlt' : (k : Int) < (n : Int) := by omega
     obtain ⟨b, off, rfl, hbl, hcell⟩ := HO.out (by omega)
     obtain ⟨x0, x1, x2, x3⟩ := hcell wr HB.out k hlt
     have hokk := HOK.out k hlt
     have HLN := Lib.hid (HLL.out k hk)
     have HLS : Hid (linesL l (k + 1) = linesL l k ++ payL (pnth l k)) := rfl
     have HPL : Hid (payL (pnth l k) = [80] ++ (pnth l k).acc.data.toList ++ sfx (pnth l k).mon.toNat 13 ++ sfx (pnth l k).ref.toNat 6 ++ (pnth l k).nam.data.toList ++ List.replicate (12 - (pnth l k).nam.size) 46 ++ [10]) := rfl
     have HPLN := Lib.hid (payL_len hokk)
     obtain ⟨_, _, hz12, _⟩ := hokk.num
     obtain ⟨_, hnz⟩ := hokk.nam
     obtain ⟨_, ⟨m0, m1⟩, r0, r1⟩ := hokk
     clear hcell hbl
     generalize payL (pnth l k) = PL at *
     generalize pnth l k = P at *
     obtain ⟨ac, nm, mo, rf⟩ := P
     dsimp only at x0 x1 x2 x3 HPL hz12 hnz m0 m1 r0 r1
     obtain ⟨mN, rfl⟩ : ∃ mN : Nat, mo = (mN : Int) := ⟨mo.toNat, by omega⟩
     obtain ⟨rN, rfl⟩ : ∃ rN : Nat, rf = (rN : Int) := ⟨rf.toNat, by omega⟩
     obtain ⟨r, hr⟩ : ∃ r, r = 12 - nm.size := ⟨_, rfl⟩
     have hr' : 12 - (nm.size : Int) = (r : Int) := by omega
     have HPX := Lib.hid (PBox.made wr ⟨ac, nm, (mN : Int), (rN : Int)⟩)
     have HBLx := Lib.hid (HBL.out.below (bbelow_box wr (.cells #[.string ac, .string nm, .int .i64 (mN : Int), .int .i64 (rN : Int)] 166)))
     have HBX := Lib.hid (HB.out.alloc HB.out.size (.cells #[.string ac, .string nm, .int .i64 (mN : Int), .int .i64 (rN : Int)] 166))
     have HRN : Hid (r + nm.size = 12) := by unfold Hid; omega
     rw [← hr] at HPL
     have HAZ := Lib.hid hz12
     have hr12 : r ≤ 12 := by omega
     have HRP : Hid (Lib.repeatL (⟨#[46]⟩ : ByteArray).data.toList r = List.replicate r 46) := repeatL_one 46 r
     have hm13 : mN < 10 ^ 13 := by
      have e : (10 : Nat) ^ 13 = 10000000000000 := by decide
      omega
     have hr6 : rN < 10 ^ 6 := by
      have e : (10 : Nat) ^ 6 = 1000000 := by decide
      omega
     have HNN := Lib.hid hnz
     clear hr hz12 m0 m1 r0 r1 hnz
     go_wp2_with fail
     refine (sh_strings_Repeat ⟨#[46]⟩ r _ (by omega) (by show 1 * r ≤ _; omega)).mono ?_
     rintro e w7 ⟨rfl, hb7⟩
     have HPX7 := Lib.hid (HPX.out.below hb7)
     have HBL7 := Lib.hid (HBLx.out.below hb7)
     have HB7 := Lib.hid (HBX.out.trans (hb7.mono HBX.out.size))
     have hsz7 : wr.heap.size < w7.heap.size := HPX7.out.lt
     rw [HRP.out]
     have HDT : Hid ((⟨(List.replicate r (46 : UInt8)).toArray⟩ : ByteArray).data.toList = List.replicate r 46) := by unfold Hid; simp
     have HDZ : Hid ((⟨(List.replicate r (46 : UInt8)).toArray⟩ : ByteArray).size = r) := by unfold Hid; rw [size_toList, HDT.out, List.length_replicate]
     generalize (⟨(List.replicate r (46 : UInt8)).toArray⟩ : ByteArray) = dt at *
     clear hb7 HPX HBLx HBX x0 x1 x2 x3 hr' HRP
     obtain ⟨c0, c1, c2, c3⟩ := HPX7.out.cells
     dsimp only at c0 c1 c2 c3
     have HT7 := Lib.hid ((HT1.out.below HB7.out).below (Below.refl w7.heap.size w7).drew)
     have j1 := join_run (a := ⟨#[80]⟩) (b := ac) (by rw [HAZ.out]; decide)
     have j2 := join_run (a := (⟨#[80]⟩ : ByteArray) ++ ac) (b := padT mN 13) (by rw [ByteArray.size_append, padT_size, HAZ.out]; decide)
     have j3 := join_run (a := (⟨#[80]⟩ : ByteArray) ++ ac ++ padT mN 13) (b := padT rN 6) (by rw [ByteArray.size_append, ByteArray.size_append, padT_size, padT_size, HAZ.out]; decide)
     have j4 := join_run (a := (⟨#[80]⟩ : ByteArray) ++ ac ++ padT mN 13 ++ padT rN 6) (b := nm) (by rw [ByteArray.size_append, ByteArray.size_append, ByteArray.size_append, padT_size, padT_size, HAZ.out]; show 1 + 12 + 13 + 6 + nm.size ≤ 1000000; have := HNN.out; omega)
     have j5 := join_run (a := (⟨#[80]⟩ : ByteArray) ++ ac ++ padT mN 13 ++ padT rN 6 ++ nm) (b := dt) (by rw [ByteArray.size_append, ByteArray.size_append, ByteArray.size_append, ByteArray.size_append, padT_size, padT_size, HAZ.out, HDZ.out]; show 1 + 12 + 13 + 6 + nm.size + r ≤ 1000000; have := HNN.out; omega)
     have j6 := join_run (a := (⟨#[80]⟩ : ByteArray) ++ ac ++ padT mN 13 ++ padT rN 6 ++ nm ++ dt) (b := ⟨#[10]⟩) (by rw [ByteArray.size_append, ByteArray.size_append, ByteArray.size_append, ByteArray.size_append, ByteArray.size_append, padT_size, padT_size, HAZ.out, HDZ.out]; show 1 + 12 + 13 + 6 + nm.size + r + 1 ≤ 1000000; have := HNN.out; omega)
     have HLI : Hid (((⟨#[80]⟩ : ByteArray) ++ ac ++ padT mN 13 ++ padT rN 6 ++ nm ++ dt ++ ⟨#[10]⟩).data.toList = PL) := by
      unfold Hid
      rw [HPL.out, ba_append, ba_append, ba_append, ba_append, ba_append, ba_append, padT_list, padT_list, HDT.out]
      rfl
     have HLZ : Hid (((⟨#[80]⟩ : ByteArray) ++ ac ++ padT mN 13 ++ padT rN 6 ++ nm ++ dt ++ ⟨#[10]⟩).size = 45) := by
      unfold Hid
      rw [size_toList, HLI.out, HPLN.out]
     go_wp2_with fail
     go_region_held3 (fun w' => w'.cell? ⟨wr.heap.size, 0, none⟩ = some (.string ac) ∧ w'.cell? ⟨wr.heap.size, 1, none⟩ = some (.string nm) ∧ w'.cell? ⟨wr.heap.size, 2, none⟩ = some (.int .i64 (mN : Int)) ∧ w'.cell? ⟨wr.heap.size, 3, none⟩ = some (.int .i64 (rN : Int))) (go_keep)
      (first
       | (have := HX9; go_at_call 181; refine (write_any w1.heap.size w1.heap.size (headL dN n sN ++ linesL l k) _ _ HBL9.out ?_ ?_).mono ?_
          ·rw [HLZ.out, List.length_append, headL_len, HLN.out]; omega
          ·exact HB9.out.size
          rintro e w10 ⟨rfl, hbl10, hb10, ho10⟩
          have HBL10 := Lib.hid hbl10
          have HB10 := Lib.hid (HB9.out.trans hb10)
          have HX10 := Lib.hid (HX9.out.others ho10 (by omega))
          obtain ⟨f0, f1, f2, f3⟩ := HX10.out.cells
          dsimp only at f0 f1 f2 f3
          clear hbl10 hb10 ho10)
       | (have := HX8; go_at_call 182; refine (padded_k rN 6 6 rfl _ HT8.out (by omega) (by omega) hr6).mono ?_; rintro e w9 ⟨rfl, hb9⟩
          have HX9 := Lib.hid (HX8.out.below hb9)
          have HBL9 := Lib.hid (HBL8.out.below hb9)
          have HB9 := Lib.hid (HB8.out.trans (hb9.mono HB8.out.size))
          obtain ⟨e0, e1, e2, e3⟩ := HX9.out.cells
          dsimp only at e0 e1 e2 e3
          clear hb9)
       | (go_at_call 182; refine (padded_k mN 13 13 rfl _ HT7.out (by omega) (by omega) hm13).mono ?_; rintro e w8 ⟨rfl, hb8⟩
          have HX8 := Lib.hid (HPX7.out.below ((Below.refl w7.heap.size w7).drew.trans hb8))
          have HBL8 := Lib.hid (HBL7.out.below ((Below.refl w7.heap.size w7).drew.trans hb8))
          have HB8 := Lib.hid (HB7.out.trans (((Below.refl w7.heap.size w7).drew.trans hb8).mono HB7.out.size))
          have HT8 := Lib.hid (HT1.out.below HB8.out)
          obtain ⟨d0, d1, d2, d3⟩ := HX8.out.cells
          dsimp only at d0 d1 d2 d3
          clear hb8))
     all_goals go_wp2_with fail
     all_goals
      go_roundw
      case rel =>
       refine ⟨k + 1, by omega, by go_num, ?_, HB10.out, by have := HX10.out.lt; omega⟩
       rw [HLS.out, ← List.append_assoc, ← HLI.out]
       exact HBL10.out
      case measure => simp [intOf]; omega
    ·obtain rfl : n = k := by omega
     go_wp2_with fail
     refine (HCN.out _ ((HC.out.below HB1.out).below HB.out)).mono ?_
     rintro e w8 ⟨rfl, hb8⟩
     have HBL8 := Lib.hid (HBL.out.below hb8)
     have HB8 := Lib.hid (HB.out.trans (hb8.mono HB.out.size))
     clear hb8
     go_wp2_with fail
     refine (padded_k cN 10 10 rfl _ (HT1.out.below HB8.out) (by omega) (by omega) hc10).mono ?_
     rintro e w9 ⟨rfl, hb9⟩
     have HBL9 := Lib.hid (HBL8.out.below hb9)
     have HB9 := Lib.hid (HB8.out.trans (hb9.mono HB8.out.size))
     have hz0 : (⟨#[69]⟩ : ByteArray).size + (padT cN 10).size ≤ 9223372036854775807 := by rw [padT_size]; decide
     have hz1 : ((⟨#[69]⟩ : ByteArray) ++ padT cN 10).size + (⟨#[10]⟩ : ByteArray).size ≤ 9223372036854775807 := by rw [ByteArray.size_append, padT_size]; decide
     have HEL : Hid (((⟨#[69]⟩ : ByteArray) ++ padT cN 10 ++ ⟨#[10]⟩).data.toList = endL cN) := by unfold Hid; rw [ba_append, ba_append, padT_list]; rfl
     have HEZ : Hid (((⟨#[69]⟩ : ByteArray) ++ padT cN 10 ++ ⟨#[10]⟩).size = 12) := by unfold Hid; rw [size_toList, HEL.out, endL_len]
     have HLN := Lib.hid (HLL.out n hk)
     clear hb9
     go_wp2_with fail
     refine (write_any w1.heap.size w1.heap.size (headL dN n sN ++ linesL l n) _ _ HBL9.out (by rw [HEZ.out, List.length_append, headL_len, HLN.out]; omega) HB9.out.size).mono ?_
     rintro e w10 ⟨rfl, hbl10, hb10, _⟩
     have HBL10 : Hid (Bld w10 w1.heap.size w1.heap.size FL) := by
      unfold Hid
      rw [HEL.out] at hbl10
      rw [HFI.out]
      exact hbl10
     have HB10 := Lib.hid (HB9.out.trans hb10)
     clear hbl10 hb10
     go_wp2_with fail
     refine (string_any w1.heap.size w1.heap.size FL _ HBL10.out HB10.out.size).mono ?_
     rintro e w11 ⟨rfl, hb11⟩
     have HB11 := Lib.hid (HB1.out.trans ((HB10.out.trans hb11).mono HB1.out.size))
     rw [← HFT.out]
     clear hb11
     go_wp2_with fail
     go_ret2
     exact ⟨rfl, HB11.out⟩
  ·rw [(pr_pay hd hp).1, (pr_pay hd hp).2]
   have heB : (payE l n != 0) = true := by simpa using hp
   have heD : decide (payE l n = 0) = false := decide_eq_false hp
   go_enter Tryz.func142, Tryz.ntmps142
   go_wp2_with (go_at_call 22; refine (isDay_any _ _).mono ?_; rintro e w' ⟨rfl, h'⟩; subst w'; rw [hd])
   refine HCK.out.mono ?_
   rintro e w1 ⟨rfl, hb1⟩
   have HB1 := Lib.hid hb1
   clear hb1
   go_wp2_with fail
   go_ret2
   exact ⟨rfl, HB1.out⟩
end Go.Proofs.YtkalfdjmklakdaaGreatDoor.Cal.Bnk
