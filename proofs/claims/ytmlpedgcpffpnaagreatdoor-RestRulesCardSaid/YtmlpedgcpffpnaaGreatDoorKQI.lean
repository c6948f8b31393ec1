/-
  A row of steps of the call's own, that others are appended to; and what a maker keeps of memory.
-/
import Derived.Test.YtmlpedgcpffpnaaGreatDoorKQ5
import Derived.Test.YtmlpedgcpffpnaaGreatDoorKQE
import Derived.Maps.AppendAt
import Derived.Deep.RegionHeld
import Derived.Test.YtmlpedgcpffpnaaGreatDoorKQF
import Derived.Test.YtmlpedgcpffpnaaGreatDoorKZ0
import Derived.Maps.OwnOps
import Derived.Deep.RegionWith
set_option linter.unusedSimpArgs false
set_option maxRecDepth 100000
set_option maxHeartbeats 8000000
namespace Go.Proofs.YtmlpedgcpffpnaaGreatDoor
open Go.RowKit
def opV (r : Bk) : List Value := [.int .i64 r.frm, .int .i64 r.rate]
def cellsO : List Bk -> List Value
 | [] => []
 | r :: l => opV r ++ cellsO l
theorem cellsO_append : ∀ l m : List Bk, cellsO (l ++ m) = cellsO l ++ cellsO m
 | [], _ => rfl
 | r :: l, m => by rw [List.cons_append, cellsO, cellsO, cellsO_append l m, List.append_assoc]
theorem obnth_cons (r : Bk) (l : List Bk) (k : Nat) : bnth (r :: l) (k + 1) = bnth l k := rfl
theorem obnth_zero (r : Bk) (l : List Bk) : bnth (r :: l) 0 = r := rfl
theorem cellsO_get : ∀ (l : List Bk) (k c : Nat), k < l.length -> c < 2 -> (cellsO l)[k * 2 + c]? = (opV (bnth l k))[c]?
 | [], k, c, hk, _ => absurd hk (by simp)
 | r :: l, 0, c, _, hc => by
   rw [cellsO, obnth_zero, List.getElem?_append_left (by simp [opV]; omega), Nat.zero_mul, Nat.zero_add]
 | r :: l, k + 1, c, hk, hc => by
   rw [cellsO, obnth_cons, List.getElem?_append_right (by simp [opV]; omega), <- cellsO_get l k c (by simpa using hk) hc]
   congr 1
   simp [opV];omega
theorem op_info : (Tryz.prog.info? 55).map (fun i => (i.zero, i.size, i.bytes)) = some (some (.agg #[.int .i64 0, .int .i64 0]), 2, 16) := by kernel_rfl
def GrowO (w : World) (B : Nat) (v : Value) (l : List Bk) : Prop := w.ownsRow B 55 2 v l.length (cellsO l)
theorem GrowO.nil (w : World) (B : Nat) : GrowO w B (.slice none 0 0) [] := World.ownsRow_nil _ _ _ _
theorem GrowO.alloc {w : World} {B : Nat} {v : Value} {l : List Bk} (h : GrowO w B v l) (o : Obj) : GrowO (w.alloc o) B v l := World.ownsRow.alloc h o
theorem GrowO.lt {w : World} {B : Nat} {v : Value} {l : List Bk} (h : GrowO w B v l) : ∀ k, v.ownBlock = some k -> B <= k /\ k < w.heap.size := World.ownsRow.lt h
theorem GrowO.below {w w' : World} {B : Nat} {v : Value} {l : List Bk} (h : GrowO w B v l) (hb : Below w.heap.size w w') : GrowO w' B v l := by
 refine World.ownsRow.kept (row := none) h ⟨hb.os, hb.tape, hb.output, hb.size, fun k hk _ => hb.block k hk⟩ ?_
 cases v.ownBlock with
 | none => exact .inl rfl
 | some k => exact .inr (Option.some_ne_none k)
theorem GrowO.put {w : World} {B : Nat} {v : Value} {l : List Bk} {p : Addr} (h : GrowO w B v l) (hp : p.block < B) (u : Value) : GrowO (w.setCell p u) B v l := by
 refine World.ownsRow.kept (row := some p.block) h ⟨rfl, rfl, rfl, by simp, fun k _ hk => Below.heap_setCell w p u k (fun e => hk (by rw [e]))⟩ ?_
 cases hv : v.ownBlock with
 | none => exact .inl rfl
 | some k =>
   refine .inr fun e => ?_
   injection e with e
   have := (h.lt k hv).1;omega
theorem GrowO.form {w : World} {B : Nat} {v : Value} {l : List Bk} (h : GrowO w B v l) : (v = .slice none 0 0 /\ l = []) \/ ∃ g c, v = .slice (some ⟨g, 0, none⟩) l.length c /\ B <= g /\ BAt w g 0 l /\ ∀ j, w.frozen? ⟨g, j, none⟩ = false := by
 have hh := h
 rcases h.2 with ⟨h1, h2⟩ | ⟨g, c, cur, h1, h2, _⟩
 ·exact .inl ⟨h1, List.eq_nil_of_length_eq_zero h2⟩
 ·subst h1;refine .inr ⟨g, c, rfl, h2, ⟨(GrowO.lt hh g rfl).2, fun j hj => ?_⟩, World.ownsRow.frozenAt hh⟩;have key : ∀ c, c < 2 -> ∀ u, (opV (bnth l j))[c]? = some u -> w.cell? ⟨g, j * 2 + c, none⟩ = some u := fun c hc u hu => by
   have := World.ownsRow.cells hh (g := g) rfl (j * 2 + c) u ((cellsO_get l j c hj hc).trans hu)
   rwa [Addr.add_lit, Nat.zero_add] at this
  rw [Nat.zero_add];exact ⟨key 0 (by omega) _ rfl, key 1 (by omega) _ rfl⟩
theorem GrowO.slice {w : World} {B : Nat} {v : Value} {l : List Bk} (h : GrowO w B v l) : ∃ x c, v = .slice x l.length c /\ CameB w x l := by
 rcases h.form with ⟨h1, h2⟩ | ⟨g, c, h1, _, h3, _⟩
 ·subst h2; exact ⟨none, 0, h1, .inl rfl⟩
 ·exact ⟨_, c, h1, .inr ⟨g, 0, rfl, h3⟩⟩
theorem run_app_o (w : World) (ty : TypeId) (B : Nat) (v : Value) (l : List Bk) (hown : GrowO w B v l) (b c : Nat) (q z : Int) (h0 : w.cell? ⟨b, 0, none⟩ = some (.int .i64 q)) (h1 : w.cell? ⟨b, 1, none⟩ = some (.int .i64 z)) (hb : l.length <= 1000000) (hB : B <= w.heap.size) :
 ∃ v' w', (Builtin.append_ #[27, 27] ty #[v, .slice (some ⟨b, 0, none⟩) 1 c]).run Tryz.prog w = .ok v' w' /\ GrowO w' B v' (l ++ [⟨q, z⟩]) /\ w.grownBy w' v.ownBlock /\ (v'.ownBlock = v.ownBlock \/ v'.ownBlock = some w.heap.size) := by
 obtain ⟨i0, hi, hz0, hz1, hz2⟩ := info_parts op_info;have hnews : ∀ j u, [Value.int .i64 q, Value.int .i64 z][j]? = some u -> w.cell? ((⟨b, 0, none⟩ : Addr).add j) = some u := by
  intro j u hu;rw [Addr.add_lit, Nat.zero_add]
  match j with
  | 0 => simp at hu; subst hu; exact h0
  | 1 => simp at hu; subst hu; exact h1
  | j + 2 => simp at hu
 obtain ⟨v', w', hr, h2, h3, _, h5⟩ := run_append_own_at (P := Tryz.prog) w B 27 ty 55 i0 _ 2 16 Tryz.underlying27 hi hz0 hz1 hz2 rfl (by decide) v l.length (cellsO l) hown ⟨b, 0, none⟩ 1 c [.int .i64 q, .int .i64 z] rfl hnews (by simp [Value.oneCell']) (by unfold maxLen; omega) (by omega) hB;refine ⟨v', w', hr, ?_, h3, h5⟩;unfold GrowO;rw [List.length_append, cellsO_append];exact h2
theorem wpList_app_o {ops : Array Oper} {rest : List Oper} {o : Oper} {a : Act} {Q : Exit -> Act -> World -> Prop} (w : World) (hgd : o.guard = none) (s x : Operand)
 (ho : o.op = .call { callee := .builtin .append, args := #[s, x], argTypes := #[27, 27] })
 (B : Nat) (v : Value) (l : List Bk) (hs : a.eval s = v) (hown : GrowO w B v l) (b c : Nat) (q z : Int) (hx : a.eval x = .slice (some ⟨b, 0, none⟩) 1 c) (h0 : w.cell? ⟨b, 0, none⟩ = some (.int .i64 q)) (h1 : w.cell? ⟨b, 1, none⟩ = some (.int .i64 z))
 (hb : l.length <= 1000000) (hB : B <= w.heap.size)
 (h : ∀ v' w', GrowO w' B v' (l ++ [⟨q, z⟩]) -> w.grownBy w' v.ownBlock -> (v'.ownBlock = v.ownBlock \/ v'.ownBlock = some w.heap.size) -> wpList Tryz.prog ops Q rest (a.put o.dst v') w') :
 wpList Tryz.prog ops Q (o :: rest) a w := by
 obtain ⟨v', w', hr, h2, h3, h4⟩ := run_app_o w o.type B v l hown b c q z h0 h1 hb hB;refine wpList_plain hgd fun _ hK => ?_
 unfold Oper.wp execOp;simp only [ho, resolve, invoke, builtin, Sem.run_bind, Sem.run_pure, Result.andThen_ok, List.map_toArray, List.map_cons, List.map_nil, hs, hx, hr];exact hK _ _ (h v' w' h2 h3 h4)
theorem cellsO_set : ∀ (l : List Bk) (k : Nat) (z : Int), k < l.length -> (cellsO l).set (k * 2 + 1) (.int .i64 z) = cellsO (l.set k ⟨(bnth l k).frm, z⟩)
 | [], k, _, hk => absurd hk (by simp)
 | r :: l, 0, z, _ => by simp [cellsO, opV, obnth_zero]
 | r :: l, k + 1, z, hk => by
   have ih := cellsO_set l k z (by simpa using hk);rw [obnth_cons, List.set_cons_succ, cellsO, cellsO, <- ih]
   show (opV r ++ cellsO l).set ((k + 1) * 2 + 1) (.int .i64 z) = _
   rw [List.set_append_right _ _ (by simp [opV]; omega)]
   congr 2
   simp [opV];omega
theorem GrowO.set {w : World} {B g c : Nat} {l : List Bk} (h : GrowO w B (.slice (some ⟨g, 0, none⟩) l.length c) l) {k : Nat} (hk : k < l.length) (z : Int) : GrowO (w.setCell ⟨g, k * 2 + 1, none⟩ (.int .i64 z)) B (.slice (some ⟨g, 0, none⟩) l.length c) (l.set k ⟨(bnth l k).frm, z⟩) := by
 have h1 := (World.ownsRow.stored h (k * 2 + 1) (.int .i64 z)).1;unfold GrowO;rw [List.length_set, <- cellsO_set l k z hk];exact h1
structure KpM (mb : Nat) (v v' : Value) (w w' : World) : Prop where
 os : w'.os = w.os
 tape : w'.tape = w.tape
 output : w'.output = w.output
 size : w.heap.size <= w'.heap.size
 block : ∀ k, k < w.heap.size -> k ≠ mb -> some k ≠ v.ownBlock -> w'.heap[k]? = w.heap[k]?
 row : v'.ownBlock = v.ownBlock \/ ∃ g, v'.ownBlock = some g /\ w.heap.size <= g
theorem KpM.of {mb : Nat} {v : Value} {w w' : World} (h : Below w.heap.size w w') : KpM mb v v w w' := ⟨h.os, h.tape, h.output, h.size, fun k hk _ _ => h.block k hk, .inl rfl⟩
theorem KpM.trans {mb : Nat} {v v' v'' : Value} {w w' w'' : World} (h : KpM mb v v' w w') (k : KpM mb v' v'' w' w'') : KpM mb v v'' w w'' := by
 refine ⟨k.os.trans h.os, k.tape.trans h.tape, k.output.trans h.output, Nat.le_trans h.size k.size, fun i hi a b => ?_, ?_⟩
 ·refine (k.block i (Nat.lt_of_lt_of_le hi h.size) a fun e => ?_).trans (h.block i hi a b)
  rcases h.row with hr | ⟨g, hr, hg⟩
  ·exact b (e.trans hr)
  ·rw [hr] at e; injection e with e; omega
 ·rcases k.row with kr | ⟨g, kr, kg⟩
  ·rcases h.row with hr | ⟨g, hr, hg⟩
   ·exact .inl (kr.trans hr)
   ·exact .inr ⟨g, kr.trans hr, hg⟩
  ·exact .inr ⟨g, kr, Nat.le_trans h.size kg⟩
theorem KpM.cell {mb : Nat} {v v' : Value} {w w' : World} (h : KpM mb v v' w w') {b i : Nat} {u : Value} (hc : w.cell? ⟨b, i, none⟩ = some u) (h1 : b ≠ mb) (h2 : some b ≠ v.ownBlock) : w'.cell? ⟨b, i, none⟩ = some u := (World.cell?_of_block (a := ⟨b, i, none⟩) (h.block b (blt_of_cell hc) h1 h2)).trans hc
theorem KpM.below {mb B B0 : Nat} {v v' : Value} {l : List Bk} {w w' : World} (h : KpM mb v v' w w') (hg : GrowO w B v l) (hB : B0 <= B) (hm : B0 <= mb) (hs : B0 <= w.heap.size) : Below B0 w w' := by
 refine ⟨h.os, h.tape, h.output, h.size, fun k hk => h.block k (by omega) (by omega) fun e => ?_⟩;have := (hg.lt k e.symm).1;omega
structure MkAt (w : World) (mb b1 b2 b3 b4 : Nat) (v : Value) (c : List Bk) : Prop where
 m0 : w.cell? ⟨mb, 0, none⟩ = some (.map (some b1))
 m1 : w.cell? ⟨mb, 1, none⟩ = some (.map (some b2))
 m2 : w.cell? ⟨mb, 2, none⟩ = some (.map (some b3))
 m3 : w.cell? ⟨mb, 3, none⟩ = some (.map (some b4))
 m4 : w.cell? ⟨mb, 4, none⟩ = some v
 fz : w.frozen? ⟨mb, 4, none⟩ = false
 gr : GrowO w (mb + 1) v c
theorem MkAt.lt {w : World} {mb b1 b2 b3 b4 : Nat} {v : Value} {c : List Bk} (h : MkAt w mb b1 b2 b3 b4 v c) : mb < w.heap.size := blt_of_cell h.m0
theorem MkAt.below {w w' : World} {mb b1 b2 b3 b4 : Nat} {v : Value} {c : List Bk} (h : MkAt w mb b1 b2 b3 b4 v c) (hb : Below w.heap.size w w') : MkAt w' mb b1 b2 b3 b4 v c :=
 have e : ∀ o, w'.cell? ⟨mb, o, none⟩ = w.cell? ⟨mb, o, none⟩ := fun o => hb.cell (p := ⟨mb, o, none⟩) h.lt
 ⟨(e 0).trans h.m0, (e 1).trans h.m1, (e 2).trans h.m2, (e 3).trans h.m3, (e 4).trans h.m4, (hb.frozen (p := ⟨mb, 4, none⟩) h.lt).trans h.fz, h.gr.below hb⟩
theorem MkAt.ne {w : World} {mb b1 b2 b3 b4 k : Nat} {v : Value} {c : List Bk} (h : MkAt w mb b1 b2 b3 b4 v c) (hk : k <= mb \/ w.heap.size <= k) : some k ≠ v.ownBlock := fun e => by
 have := h.gr.lt k e.symm;omega
theorem MkAt.app {w w9 : World} {mb b1 b2 b3 b4 : Nat} {v v9 : Value} {c d : List Bk} {o : Obj} (h : MkAt w mb b1 b2 b3 b4 v c) (hg : GrowO w9 (mb + 1) v9 d) (hr : (w.alloc o).grownBy w9 v.ownBlock) (hv : v9.ownBlock = v.ownBlock \/ v9.ownBlock = some (w.alloc o).heap.size) :
 MkAt (w9.setCell ⟨mb, 4, none⟩ v9) mb b1 b2 b3 b4 v9 d /\ KpM mb v v9 w (w9.setCell ⟨mb, 4, none⟩ v9) := by
 have hlt := h.lt;have h' := h.below (kbelow_box w o);have hne := h'.ne (k := mb) (.inl (Nat.le_refl _));have hs : w.heap.size < (w.alloc o).heap.size := by simp
 have hbk : w9.heap[mb]? = (w.alloc o).heap[mb]? := hr.block mb (by omega) hne;have e : ∀ k, w9.cell? ⟨mb, k, none⟩ = (w.alloc o).cell? ⟨mb, k, none⟩ := fun k => World.cell?_of_block (a := ⟨mb, k, none⟩) hbk
 have ne : ∀ k, k ≠ 4 -> (⟨mb, 4, none⟩ : Addr) ≠ ⟨mb, k, none⟩ := fun k hk e => by injection e with _ e _; exact hk e.symm
 refine ⟨⟨?_, ?_, ?_, ?_, ?_, ?_, hg.put (by show mb < mb + 1; omega) _⟩, hr.os, hr.tape, hr.output, ?_, fun k hk h1 h2 => ?_, ?_⟩
 ·rw [World.cell?_setCell_other (h := ne 0 (by omega)), e]; exact h'.m0
 ·rw [World.cell?_setCell_other (h := ne 1 (by omega)), e]; exact h'.m1
 ·rw [World.cell?_setCell_other (h := ne 2 (by omega)), e]; exact h'.m2
 ·rw [World.cell?_setCell_other (h := ne 3 (by omega)), e]; exact h'.m3
 ·exact World.cell?_setCell_same _ _ _ ((e 4).trans h'.m4)
 ·rw [World.frozen?_setCell]; exact (World.frozen?_of_block (a := ⟨mb, 4, none⟩) hbk).trans h'.fz
 ·have := hr.size; simp; omega
 ·exact (Below.heap_setCell w9 ⟨mb, 4, none⟩ v9 k (show k ≠ mb from h1)).trans ((hr.block k (by omega) h2).trans ((kbelow_box w o).block k hk))
 ·rcases hv with hv | hv
  ·exact .inl hv
  ·exact .inr ⟨_, hv, by omega⟩
theorem MkAt.set {w : World} {mb b1 b2 b3 b4 g n cc : Nat} {c : List Bk} (hn : c.length = n) (h : MkAt w mb b1 b2 b3 b4 (.slice (some ⟨g, 0, none⟩) n cc) c) {k : Nat} (hk : k < n) {q y : Int} (hq : bnth c k = ⟨q, y⟩) (z : Int) :
 MkAt (w.setCell ⟨g, k * 2 + 1, none⟩ (.int .i64 z)) mb b1 b2 b3 b4 (.slice (some ⟨g, 0, none⟩) n cc) (c.set k ⟨q, z⟩) /\ KpM mb (.slice (some ⟨g, 0, none⟩) n cc) (.slice (some ⟨g, 0, none⟩) n cc) w (w.setCell ⟨g, k * 2 + 1, none⟩ (.int .i64 z)) := by
 subst hn;have hgm : g ≠ mb := fun e => by subst e; exact h.ne (.inl (Nat.le_refl _)) rfl
 have e : ∀ o, (w.setCell ⟨g, k * 2 + 1, none⟩ (.int .i64 z)).cell? ⟨mb, o, none⟩ = w.cell? ⟨mb, o, none⟩ := fun o => World.cell?_setCell_far w ⟨g, k * 2 + 1, none⟩ ⟨mb, o, none⟩ _ hgm
 have hg := h.gr.set hk z;rw [hq] at hg;exact ⟨⟨(e 0).trans h.m0, (e 1).trans h.m1, (e 2).trans h.m2, (e 3).trans h.m3, (e 4).trans h.m4, (World.frozen?_setCell ..).trans h.fz, hg⟩, rfl, rfl, rfl, by simp, fun i _ _ hi => Below.heap_setCell w ⟨g, k * 2 + 1, none⟩ _ i (fun e => hi (by rw [e]; rfl)), .inl rfl⟩
def stepOf (l : List Ln) (kn : Kn) (k n : Int) (s : ByteArray) : Bk :=
 if k = 1 then ⟨1, n⟩
 else if k = 2 then (match lnsG l s with | some p => ⟨3, (p : Int)⟩ | none => ⟨2, (((insG kn s).getD 0 : Nat) : Int)⟩)
 else if k = 3 then (match yrsG kn s with | some p => ⟨4, (p : Int)⟩ | none => ⟨1, 0⟩)
 else if k = 5 then ⟨6, (((tbsG kn s).getD 0 : Nat) : Int)⟩
 else ⟨k + 1, n⟩
def catN (f : Nat -> List Bk) : Nat -> List Bk
 | 0 => []
 | j + 1 => catN f j ++ f j
def Ex.code (l : List Ln) (kn : Kn) : Ex -> List Bk
 | .no => []
 | .mk k n s m kid =>
   if k = 13 then (kid 0).code l kn ++ ((kid 1).code l kn ++ (⟨15, n + 4 * (((kid 2).code l kn).length + 1 : Nat)⟩ :: ((kid 2).code l kn ++ (⟨14, (((kid 3).code l kn).length : Nat)⟩ :: (kid 3).code l kn))))
   else catN (fun j => (kid j).code l kn) m ++ [stepOf l kn k n s]
def Ex.fit (ok tb : ByteArray -> Prop) : Ex -> Prop
 | .no => False
 | .mk k n s m kid => (1 <= k /\ k <= 13 /\ (m : Int) = kidsOf k /\ leastOf k <= n /\ n <= mostOf k) /\ ((k = 2 -> ok s) /\ (k = 5 -> tb s)) /\ ∀ j, j < m -> (kid j).fit ok tb
theorem code_13 (l : List Ln) (kn : Kn) (n : Int) (s : ByteArray) (m : Nat) (kid : Nat -> Ex) : (Ex.mk 13 n s m kid).code l kn = (kid 0).code l kn ++ ((kid 1).code l kn ++ (⟨15, n + 4 * (((kid 2).code l kn).length + 1 : Nat)⟩ :: ((kid 2).code l kn ++ (⟨14, (((kid 3).code l kn).length : Nat)⟩ :: (kid 3).code l kn)))) := by rw [Ex.code, if_pos rfl]
def Ex.whole : Ex -> Prop
 | .no => False
 | .mk _ _ _ m kid => ∀ j, j < m -> (kid j).whole
theorem KidsAt.whole {w : World} : ∀ {x : Ex} {a : Option Addr}, KidsAt w x a -> x.whole := by
 intro x
 induction x with
 | no => intro a h; exact h.elim
 | mk k n s m kid ih =>
   rintro a ⟨_, _, h | ⟨b, o, _, _, h⟩⟩ j hj
   ·omega
   ·obtain ⟨aj, cj, _, hk⟩ := h j hj;exact ih j hk
theorem fit_of {kn : Kn} {gv gl : ByteArray -> Option Nat} {ok : ByteArray -> Prop} (hg : ∀ s, (gv s).isSome = true -> ok s) (x : Ex) : x.whole -> x.err = 0 -> x.all (knowB gv gl (tabsG kn)) = true -> x.fit ok (fun s => (tbsG kn s).isSome = true) := by
 induction x with
 | no => intro h; exact h.elim
 | mk k n s m kid ih =>
   intro hw he ha;rw [err_mk] at he;rw [all_mk] at ha
   by_cases hown : ownE k n s m = 0
   ·rw [if_pos hown] at he;simp only [Bool.and_eq_true] at ha;have hkn := ha.1;obtain ⟨h1, h13, hm, hnm, hl, hu⟩ := own_parts hown;refine ⟨⟨h1, h13, hm, hl, hu⟩, ⟨fun e => ?_, fun e => ?_⟩, fun j hj => ih j (hw j hj) (firstE_zero he j hj) (allN_each ha.2 j hj)⟩
    ·subst e; exact hg s hkn
    ·subst e; exact hkn
   ·rw [if_neg hown] at he;exact absurd he hown
theorem catN_len (f : Nat -> List Bk) : ∀ m, (catN f m).length = sumN (fun j => (f j).length) m
 | 0 => rfl
 | m + 1 => by rw [catN, List.length_append, catN_len f m]; rfl
theorem sumN_two {f g : Nat -> Nat} : ∀ {m : Nat}, (∀ j, j < m -> f j <= 2 * g j) -> sumN f m <= 2 * sumN g m
 | 0, _ => Nat.le_refl _
 | m + 1, h => by
   have h1 := sumN_two (f := f) (g := g) (m := m) (fun j hj => h j (by omega));have h2 := h m (by omega)
   show sumN f m + f m <= 2 * (sumN g m + g m)
   omega
theorem code_len {l : List Ln} {kn : Kn} {ok tb : ByteArray -> Prop} (x : Ex) : x.fit ok tb -> (x.code l kn).length <= 2 * x.parts := by
 induction x with
 | no => intro h; exact h.elim
 | mk k n s m kid ih =>
   rintro ⟨⟨h1, h13, hm, hl, hu⟩, _, hk⟩;have hs := sumN_two (f := fun j => ((kid j).code l kn).length) (g := fun j => (kid j).parts) (m := m) (fun j hj => ih j (hk j hj));have hp : (Ex.mk k n s m kid).parts = 1 + sumN (fun j => (kid j).parts) m := rfl
   by_cases hk13 : k = 13
   ·subst hk13;obtain rfl : m = 4 := by have : kidsOf 13 = 4 := (by decide); omega
    rw [code_13, hp];have e1 : sumN (fun j => ((kid j).code l kn).length) 4 = ((((0 + ((kid 0).code l kn).length) + ((kid 1).code l kn).length) + ((kid 2).code l kn).length) + ((kid 3).code l kn).length) := rfl;rw [e1] at hs;simp only [List.length_append, List.length_cons];omega
   ·rw [Ex.code, if_neg hk13, List.length_append, catN_len, hp];simp only [List.length_cons, List.length_nil];omega
def linesC (l : List Ln) (kn : Kn) : Nat -> List Bk
 | 0 => []
 | j + 1 => linesC l kn j ++ ((lnth l j).ex.code l kn ++ [⟨16, (j : Int)⟩])
structure LinesOk (l : List Ln) (kn : Kn) : Prop where
 err : linesE l = 0
 known : knE kn = 0
 ok : ∀ q, q < l.length -> lineOk l kn q = 0
 whole : ∀ q, q < l.length -> (lnth l q).ex.whole
theorem LinesOk.fit {l : List Ln} {kn : Kn} (h : LinesOk l kn) {j : Nat} (hj : j < l.length) : (lnth l j).ex.fit (fun s => (∀ p, lnsG l s = some p -> p < j) /\ (lnsG l s = none -> (insG kn s).isSome = true)) (fun s => (tbsG kn s).isSome = true) := by
 refine fit_of (gv := valsK l kn j) (gl := linesG l) (fun s hs => ?_) _ (h.whole j hj) (lines_err h.err hj) (line_knows (h.ok _ hj));have h2 := name_ok (l := l) (kn := kn) (vs := List.replicate j 0) h.ok (by simpa using hj) (s := s) (by simpa using hs);exact ⟨fun p hp => by have := h2.1 p hp; simpa using this, h2.2⟩
theorem linesC_len {l : List Ln} {kn : Kn} (h : LinesOk l kn) : ∀ j, j <= l.length -> (linesC l kn j).length <= 2 * sumP l j + j
 | 0, _ => Nat.le_refl _
 | j + 1, hj => by
   have h1 := linesC_len h j (by omega);have h2 := code_len (l := l) (kn := kn) _ (h.fit (j := j) (by omega));have h3 : sumP l (j + 1) = sumP l j + (lnth l j).ex.parts := rfl;rw [linesC, List.length_append, List.length_append, h3];simp only [List.length_cons, List.length_nil];omega
open Go.Maps Go.WideMaps
def MkRet (w : World) (mb b1 b2 b3 b4 : Nat) (v : Value) (c : List Bk) (e : Ending) (w' : World) : Prop := e = .returned (.tuple #[]) /\ ∃ v', MkAt w' mb b1 b2 b3 b4 v' c /\ KpM mb v v' w w'
theorem mstep_any (q z : Int) (mb b1 b2 b3 b4 : Nat) (v : Value) (c : List Bk) (w : World) (h : MkAt w mb b1 b2 b3 b4 v c) (hc : c.length <= 100000) :
 Calls Tryz.prog 26 #[.pointer (some ⟨mb, 0, none⟩), .int .i64 q, .int .i64 z] w fun e w' => MkRet w mb b1 b2 b3 b4 v (c ++ [⟨q, z⟩]) e w' := by
 have H := Hd h;have hlt := h.lt;have x4 := h.m4;have HC := Hd hc;clear h hc
 go_enter Tryz.func26, Tryz.ntmps26
 go_wp2_with (at_builtin; refine wpList_app_o _ rfl _ _ rfl (mb + 1) v c rfl (H.out.gr.alloc _) w.heap.size 1 q z rfl (by simp) (by simp) (by have := HC.out; omega) (by simp; omega) ?_; intro v9 w9 hg9 hr9 hv9; refine Hid.out ?_)
 obtain ⟨xv, N, cv, rfl⟩ : ∃ x n c, v9 = Value.slice x n c := by obtain ⟨x, c, h, -⟩ := hg9.slice; exact ⟨x, _, c, h⟩
 have hAK := MkAt.app H.out hg9 hr9 hv9;have HA := Hd hAK.1;have HK := Hd hAK.2;have hne : some mb ≠ v.ownBlock := H.out.ne (.inl (Nat.le_refl _));have hbb := kbelow_box w (.cells #[.int .i64 q, .int .i64 z] 55);have hmk := H.out.below hbb;have hbk : w9.heap[mb]? = (w.alloc (.cells #[.int .i64 q, .int .i64 z] 55)).heap[mb]? := hr9.block mb (by simp; omega) hne;have y4 : w9.cell? ⟨mb, 4, none⟩ = some v := (World.cell?_of_block (a := ⟨mb, 4, none⟩) hbk).trans hmk.m4;have yf : w9.frozen? ⟨mb, 4, none⟩ = false := (World.frozen?_of_block (a := ⟨mb, 4, none⟩) hbk).trans hmk.fz;clear hg9 hr9 hv9 hAK hbb hmk hbk hne;unfold Hid;go_wp2_with fail
 refine bodyPost_end (v := .tuple #[]) (by simp [results, Tryz.results26, go_sem]) rfl ?_;exact ⟨rfl, _, HA.out, HK.out⟩
theorem mnamed_any (s : ByteArray) (n : Int) (l : List Ln) (kn : Kn) (mb b1 b2 b3 b4 : Nat) (v : Value) (c : List Bk) (w : World) (hs : s.size <= maxLen) (h : MkAt w mb b1 b2 b3 b4 v c) (hc : c.length <= 100000) (hM : MeantIs w b1 b2 b3 b4 l kn) :
 Calls Tryz.prog 70 #[.pointer (some ⟨mb, 0, none⟩), .string s] w fun e w' => MkRet w mb b1 b2 b3 b4 v (c ++ [stepOf l kn 2 n s]) e w' := by
 obtain ⟨⟨D, hown, hD⟩, ⟨E, hownE, hE⟩, _⟩ := hM;have hkey := key_of hs;have hD1 := (hD s).1;have HD2 := Hd (hD s).2;have HE2 := Hd (hE s).2;have x0 := h.m0;have x1 := h.m1;clear hD hE
 cases hg : lnsG l s with
 | none =>
   have HR : Hid (stepOf l kn 2 n s = ⟨2, (((insG kn s).getD 0 : Nat) : Int)⟩) := Hd (by unfold stepOf; rw [if_neg (by decide), if_pos rfl, hg]);rw [HR.out];have hhas : Maps.has D (.string s.data.toList) = false := by rw [hD1]; show (lnsG l s).isSome = false; rw [hg]; rfl
   have HC : Hid (E.atKey (.string s.data.toList) (.lit (.int .i64 0)) = .lit (.int .i64 (((insG kn s).getD 0 : Nat) : Int))) := HE2.out;have HS := Hd (mstep_any 2 (((insG kn s).getD 0 : Nat) : Int) mb b1 b2 b3 b4 v c w h hc);generalize (((insG kn s).getD 0 : Nat) : Int) = z at *;clear hD1 HD2 HE2 h hc
   go_enter Tryz.func70, Tryz.ntmps70
   go_wp2_with (first
    | (at_lookup; refine wpList_lookup_own_ok_int _ rfl _ _ 57 rfl 9 3 .i64 strLaw Tryz.underlying57 Tryz.underlying3 (zeroInt _) _ _ _ rfl hown _ _ rfl hkey ?_; intro c0 hat hwc; rw [hhas])
    | (at_lookup; refine wpList_lookup_own_int _ rfl _ _ 57 rfl 9 3 .i64 strLaw Tryz.underlying57 Tryz.underlying3 (zeroInt _) _ _ _ rfl hownE _ _ rfl hkey ?_; intro c1 hat1 hwc1; obtain rfl := lit_int (hat1.symm.trans HC.out)))
   refine HS.out.mono ?_;rintro e w' ⟨rfl, hr⟩;have HR2 := Hd hr;clear hr;go_wp2_with fail
   refine bodyPost_end (v := .tuple #[]) (by simp [results, Tryz.results70, go_sem]) rfl ?_;exact ⟨rfl, HR2.out⟩
 | some p =>
   have HR : Hid (stepOf l kn 2 n s = ⟨3, (p : Int)⟩) := Hd (by unfold stepOf; rw [if_neg (by decide), if_pos rfl, hg]);rw [HR.out];have hhas : Maps.has D (.string s.data.toList) = true := by rw [hD1]; show (lnsG l s).isSome = true; rw [hg]; rfl
   have HC : Hid (D.atKey (.string s.data.toList) (.lit (.int .i64 0)) = .lit (.int .i64 (p : Int))) := by
    have h := HD2.out;rw [show lastN (fun j => (lnth l j).name) l.length s = some p from hg] at h;exact h
   have HS := Hd (mstep_any 3 (p : Int) mb b1 b2 b3 b4 v c w h hc);clear hD1 HD2 HE2 h hc
   go_enter Tryz.func70, Tryz.ntmps70
   go_wp2_with (first
    | (at_lookup; refine wpList_lookup_own_ok_int _ rfl _ _ 57 rfl 9 3 .i64 strLaw Tryz.underlying57 Tryz.underlying3 (zeroInt _) _ _ _ rfl hown _ _ rfl hkey ?_; intro c0 hat hwc; rw [hhas]; obtain rfl := lit_int (hat.symm.trans HC.out)))
   refine HS.out.mono ?_;rintro e w' ⟨rfl, hr⟩;have HR2 := Hd hr;clear hr;go_wp2_with fail
   refine bodyPost_ret (v := .tuple #[]) (by simp [results, Tryz.results70, go_sem]) rfl ?_;exact ⟨rfl, HR2.out⟩
theorem minYear_any (s : ByteArray) (n : Int) (l : List Ln) (kn : Kn) (mb b1 b2 b3 b4 : Nat) (v : Value) (c : List Bk) (w : World) (hs : s.size <= maxLen) (h : MkAt w mb b1 b2 b3 b4 v c) (hc : c.length <= 100000) (hM : MeantIs w b1 b2 b3 b4 l kn) :
 Calls Tryz.prog 71 #[.pointer (some ⟨mb, 0, none⟩), .string s] w fun e w' => MkRet w mb b1 b2 b3 b4 v (c ++ [stepOf l kn 3 n s]) e w' := by
 obtain ⟨_, _, _, D, hown, hD⟩ := hM;have hkey := key_of hs;have hD1 := (hD s).1;have HD2 := Hd (hD s).2;have x3 := h.m3;clear hD
 cases hg : yrsG kn s with
 | none =>
   have HR : Hid (stepOf l kn 3 n s = ⟨1, 0⟩) := Hd (by unfold stepOf; rw [if_neg (by decide), if_neg (by decide), if_pos rfl, hg]);rw [HR.out];have hhas : Maps.has D (.string s.data.toList) = false := by rw [hD1]; show (yrsG kn s).isSome = false; rw [hg]; rfl
   have HS := Hd (mstep_any 1 0 mb b1 b2 b3 b4 v c w h hc);clear hD1 HD2 h hc
   go_enter Tryz.func71, Tryz.ntmps71
   go_wp2_with (first
    | (at_lookup; refine wpList_lookup_own_ok_int _ rfl _ _ 57 rfl 9 3 .i64 strLaw Tryz.underlying57 Tryz.underlying3 (zeroInt _) _ _ _ rfl hown _ _ rfl hkey ?_; intro c0 hat hwc; rw [hhas]))
   refine HS.out.mono ?_;rintro e w' ⟨rfl, hr⟩;have HR2 := Hd hr;clear hr;go_wp2_with fail
   refine bodyPost_end (v := .tuple #[]) (by simp [results, Tryz.results71, go_sem]) rfl ?_;exact ⟨rfl, HR2.out⟩
 | some p =>
   have HR : Hid (stepOf l kn 3 n s = ⟨4, (p : Int)⟩) := Hd (by unfold stepOf; rw [if_neg (by decide), if_neg (by decide), if_pos rfl, hg]);rw [HR.out];have hhas : Maps.has D (.string s.data.toList) = true := by rw [hD1]; show (yrsG kn s).isSome = true; rw [hg]; rfl
   have HC : Hid (D.atKey (.string s.data.toList) (.lit (.int .i64 0)) = .lit (.int .i64 (p : Int))) := by
    have h := HD2.out;rw [show lastN (fun j => (anth kn.yrs j).name) kn.yrs.length s = some p from hg] at h;exact h
   have HS := Hd (mstep_any 4 (p : Int) mb b1 b2 b3 b4 v c w h hc);clear hD1 HD2 h hc
   go_enter Tryz.func71, Tryz.ntmps71
   go_wp2_with (first
    | (at_lookup; refine wpList_lookup_own_ok_int _ rfl _ _ 57 rfl 9 3 .i64 strLaw Tryz.underlying57 Tryz.underlying3 (zeroInt _) _ _ _ rfl hown _ _ rfl hkey ?_; intro c0 hat hwc; rw [hhas]; obtain rfl := lit_int (hat.symm.trans HC.out)))
   refine HS.out.mono ?_;rintro e w' ⟨rfl, hr⟩;have HR2 := Hd hr;clear hr;go_wp2_with fail
   refine bodyPost_ret (v := .tuple #[]) (by simp [results, Tryz.results71, go_sem]) rfl ?_;exact ⟨rfl, HR2.out⟩
def MExIs (l : List Ln) (kn : Kn) (W1 : World) (mb b1 b2 b3 b4 : Nat) (x : Ex) : Prop := ∀ (a : Option Addr) (cap : Nat) (v : Value) (c : List Bk) (w : World), KidsAt W1 x a -> Below W1.heap.size W1 w -> MkAt w mb b1 b2 b3 b4 v c -> c.length + 2 * x.parts <= 100000 →
 Calls Tryz.prog 25 #[.pointer (some ⟨mb, 0, none⟩), .agg #[.int .i64 x.k, .int .i64 x.n, .string x.s, .slice a x.m cap]] w fun e w' => MkRet w mb b1 b2 b3 b4 v (c ++ x.code l kn) e w'
theorem patch_if (X A2 A3 : List Bk) (z y : Int) : (((X ++ [(⟨15, 0⟩ : Bk)] ++ A2 ++ [(⟨14, 0⟩ : Bk)] ++ A3).set X.length ⟨15, z⟩).set (X.length + 1 + A2.length) ⟨14, y⟩) = X ++ ((⟨15, z⟩ : Bk) :: (A2 ++ (⟨14, y⟩ :: A3))) := by
 have e1 : X ++ [(⟨15, 0⟩ : Bk)] ++ A2 ++ [(⟨14, 0⟩ : Bk)] ++ A3 = X ++ (⟨15, 0⟩ :: (A2 ++ (⟨14, 0⟩ :: A3)) : List Bk) := by simp
 rw [e1, List.set_append_right _ _ (Nat.le_refl _), Nat.sub_self, List.set_cons_zero, List.set_append_right _ _ (by omega), show X.length + 1 + A2.length - X.length = A2.length + 1 by omega, List.set_cons_succ, List.set_append_right _ _ (Nat.le_refl _), Nat.sub_self, List.set_cons_zero]
theorem patch_at (X A2 A3 : List Bk) : bnth (X ++ [(⟨15, 0⟩ : Bk)] ++ A2 ++ [(⟨14, 0⟩ : Bk)] ++ A3) X.length = ⟨15, 0⟩ := by
 have e1 : X ++ [(⟨15, 0⟩ : Bk)] ++ A2 ++ [(⟨14, 0⟩ : Bk)] ++ A3 = X ++ (⟨15, 0⟩ :: (A2 ++ (⟨14, 0⟩ :: A3)) : List Bk) := by simp
 rw [e1];unfold bnth;rw [List.getD_eq_getElem?_getD, List.getElem?_append_right (Nat.le_refl _), Nat.sub_self];rfl
theorem patch_at2 (X A2 A3 : List Bk) (z : Int) : bnth ((X ++ [(⟨15, 0⟩ : Bk)] ++ A2 ++ [(⟨14, 0⟩ : Bk)] ++ A3).set X.length ⟨15, z⟩) (X.length + 1 + A2.length) = ⟨14, 0⟩ := by
 have e1 : X ++ [(⟨15, 0⟩ : Bk)] ++ A2 ++ [(⟨14, 0⟩ : Bk)] ++ A3 = X ++ (⟨15, 0⟩ :: (A2 ++ (⟨14, 0⟩ :: A3)) : List Bk) := by simp
 rw [e1, List.set_append_right _ _ (Nat.le_refl _), Nat.sub_self, List.set_cons_zero];unfold bnth;rw [List.getD_eq_getElem?_getD, List.getElem?_append_right (by omega), show X.length + 1 + A2.length - X.length = A2.length + 1 by omega, List.getElem?_cons_succ, List.getElem?_append_right (Nat.le_refl _), Nat.sub_self];rfl
theorem kbox4 (w : World) (v0 v1 v2 v3 : Value) (T : TypeId) : (w.alloc (.cells #[v0, v1, v2, v3] T)).cell? ⟨w.heap.size, 1, none⟩ = some v1 /\ (w.alloc (.cells #[v0, v1, v2, v3] T)).cell? ⟨w.heap.size, 3, none⟩ = some v3 := by
 constructor <;> simp
structure Ch (W1 W : World) (mb b1 b2 b3 b4 : Nat) (v0 : Value) (w : World) (v : Value) (c : List Bk) : Prop where
 bel : Below W1.heap.size W1 w
 at_ : MkAt w mb b1 b2 b3 b4 v c
 kp : KpM mb v0 v W w
theorem Ch.next {W1 W : World} {mb b1 b2 b3 b4 : Nat} {v0 : Value} {w w' : World} {v v' : Value} {c c' : List Bk} (h : Ch W1 W mb b1 b2 b3 b4 v0 w v c) (hW : W1.heap.size <= mb) (m : MkAt w' mb b1 b2 b3 b4 v' c') (k : KpM mb v v' w w') : Ch W1 W mb b1 b2 b3 b4 v0 w' v' c' :=
 ⟨h.bel.trans (k.below h.at_.gr (by omega) hW h.bel.size), m, h.kp.trans k⟩
theorem Ch.below {W1 W : World} {mb b1 b2 b3 b4 : Nat} {v0 : Value} {w w' : World} {v : Value} {c : List Bk} (h : Ch W1 W mb b1 b2 b3 b4 v0 w v c) (hb : Below w.heap.size w w') : Ch W1 W mb b1 b2 b3 b4 v0 w' v c :=
 ⟨h.bel.trans (hb.mono h.bel.size), h.at_.below hb, h.kp.trans (.of hb)⟩
theorem Ch.drew {W1 W : World} {mb b1 b2 b3 b4 : Nat} {v0 : Value} {w : World} {v : Value} {c : List Bk} (h : Ch W1 W mb b1 b2 b3 b4 v0 w v c) : Ch W1 W mb b1 b2 b3 b4 v0 w.drew v c := h.below (kbelow_dN (Below.refl _ _) 1)
theorem Ch.made {W1 w : World} {mb b1 b2 b3 b4 : Nat} {v : Value} {c : List Bk} (hb : Below W1.heap.size W1 w) (h : MkAt w mb b1 b2 b3 b4 v c) (o : Obj) : Ch W1 (w.alloc o) mb b1 b2 b3 b4 v (w.alloc o) v c :=
 ⟨hb.trans ((kbelow_box w o).mono hb.size), h.below (kbelow_box w o), .of (Below.refl _ _)⟩
theorem mchoice_any (l : List Ln) (kn : Kn) (W1 : World) (mb b1 b2 b3 b4 : Nat) (hW : W1.heap.size <= mb) (n : Int) (hn : 1 <= n /\ n <= 3) (s : ByteArray) (kid : Nat -> Ex) (i : ∀ j, j < 4 -> MExIs l kn W1 mb b1 b2 b3 b4 (kid j)) (a : Option Addr) (cap : Nat) (v : Value) (c : List Bk) (w : World) (ht : KidsAt W1 (.mk 13 n s 4 kid) a) (hb : Below W1.heap.size W1 w) (hmk : MkAt w mb b1 b2 b3 b4 v c) (hlen : c.length + 2 * (Ex.mk 13 n s 4 kid).parts <= 100000) (hcl : ∀ j, j < 4 -> ((kid j).code l kn).length <= 2 * (kid j).parts) :
 Calls Tryz.prog 69 #[.pointer (some ⟨mb, 0, none⟩), .agg #[.int .i64 13, .int .i64 n, .string s, .slice a (4 : Nat) cap]] w fun e w' => MkRet w mb b1 b2 b3 b4 v (c ++ (Ex.mk 13 n s 4 kid).code l kn) e w' := by
 have HC := Hd (Ch.made hb hmk (.cells #[.int .i64 13, .int .i64 n, .string s, .slice a (4 : Nat) cap] 50));have HKB := Hd (KpM.of (mb := mb) (v := v) (kbelow_box w (.cells #[.int .i64 13, .int .i64 n, .string s, .slice a (4 : Nat) cap] 50)));obtain ⟨hb1, hb3⟩ := kbox4 w (.int .i64 13) (.int .i64 n) (.string s) (.slice a (4 : Nat) cap) 50;have HB1 := Hd hb1;have HB3 := Hd hb3;have hmlt := hmk.lt;have hne0 : w.heap.size ≠ mb := by omega
 have HNE : Hid (some w.heap.size ≠ v.ownBlock) := Hd (hmk.ne (.inr (Nat.le_refl _)));have HLN : Hid (c.length + 2 * (1 + ((((0 + (kid 0).parts) + (kid 1).parts) + (kid 2).parts) + (kid 3).parts)) <= 100000) := Hd hlen;have HLE : Hid (((kid 0).code l kn).length <= 2 * (kid 0).parts /\ ((kid 1).code l kn).length <= 2 * (kid 1).parts /\ ((kid 2).code l kn).length <= 2 * (kid 2).parts /\ ((kid 3).code l kn).length <= 2 * (kid 3).parts) := Hd ⟨hcl 0 (by omega), hcl 1 (by omega), hcl 2 (by omega), hcl 3 (by omega)⟩;rw [code_13];obtain ⟨b, o, rfl, hcell⟩ := ht.open (show 0 < 4 by omega);obtain ⟨q0, d0, ⟨y00, y01, y02, y03⟩, ht0⟩ := hcell _ (Below.refl _ _) 0 (show 0 < 4 by omega);have x00 : W1.cell? ⟨b, o, none⟩ = some (.int .i64 (kid 0).k) := y00;have x01 : W1.cell? ⟨b, o + 1, none⟩ = some (.int .i64 (kid 0).n) := y01;have x02 : W1.cell? ⟨b, o + 2, none⟩ = some (.string (kid 0).s) := y02;have x03 : W1.cell? ⟨b, o + 3, none⟩ = some (.slice q0 (kid 0).m d0) := y03;have HT0 := Hd ht0;have HK0 := Hd (i 0 (by omega));clear y00 y01 y02 y03 ht0;obtain ⟨q1, d1, ⟨y10, y11, y12, y13⟩, ht1⟩ := hcell _ (Below.refl _ _) 1 (show 1 < 4 by omega);have x10 : W1.cell? ⟨b, o + 4, none⟩ = some (.int .i64 (kid 1).k) := y10;have x11 : W1.cell? ⟨b, o + 4 + 1, none⟩ = some (.int .i64 (kid 1).n) := y11;have x12 : W1.cell? ⟨b, o + 4 + 2, none⟩ = some (.string (kid 1).s) := y12;have x13 : W1.cell? ⟨b, o + 4 + 3, none⟩ = some (.slice q1 (kid 1).m d1) := y13;have HT1 := Hd ht1;have HK1 := Hd (i 1 (by omega));clear y10 y11 y12 y13 ht1;obtain ⟨q2, d2, ⟨y20, y21, y22, y23⟩, ht2⟩ := hcell _ (Below.refl _ _) 2 (show 2 < 4 by omega);have x20 : W1.cell? ⟨b, o + 8, none⟩ = some (.int .i64 (kid 2).k) := y20;have x21 : W1.cell? ⟨b, o + 8 + 1, none⟩ = some (.int .i64 (kid 2).n) := y21;have x22 : W1.cell? ⟨b, o + 8 + 2, none⟩ = some (.string (kid 2).s) := y22;have x23 : W1.cell? ⟨b, o + 8 + 3, none⟩ = some (.slice q2 (kid 2).m d2) := y23;have HT2 := Hd ht2;have HK2 := Hd (i 2 (by omega));clear y20 y21 y22 y23 ht2
 obtain ⟨q3, d3, ⟨y30, y31, y32, y33⟩, ht3⟩ := hcell _ (Below.refl _ _) 3 (show 3 < 4 by omega);have x30 : W1.cell? ⟨b, o + 12, none⟩ = some (.int .i64 (kid 3).k) := y30;have x31 : W1.cell? ⟨b, o + 12 + 1, none⟩ = some (.int .i64 (kid 3).n) := y31;have x32 : W1.cell? ⟨b, o + 12 + 2, none⟩ = some (.string (kid 3).s) := y32;have x33 : W1.cell? ⟨b, o + 12 + 3, none⟩ = some (.slice q3 (kid 3).m d3) := y33;have HT3 := Hd ht3;have HK3 := Hd (i 3 (by omega));clear y30 y31 y32 y33 ht3;clear ht hb hmk hlen hcl hcell i hb1 hb3;unfold MExIs at HK0 HK1 HK2 HK3;generalize (kid 0).k = k0 at *;generalize (kid 0).n = n0 at *;generalize (kid 0).s = s0 at *;generalize (kid 0).m = l0 at *;generalize (kid 0).code l kn = C0 at *;generalize (kid 0).parts = P0 at *;generalize (kid 1).k = k1 at *;generalize (kid 1).n = n1 at *;generalize (kid 1).s = s1 at *;generalize (kid 1).m = l1 at *;generalize (kid 1).code l kn = C1 at *;generalize (kid 1).parts = P1 at *;generalize (kid 2).k = k2 at *;generalize (kid 2).n = n2 at *;generalize (kid 2).s = s2 at *;generalize (kid 2).m = l2 at *;generalize (kid 2).code l kn = C2 at *;generalize (kid 2).parts = P2 at *;generalize (kid 3).k = k3 at *;generalize (kid 3).n = n3 at *;generalize (kid 3).s = s3 at *;generalize (kid 3).m = l3 at *;generalize (kid 3).code l kn = C3 at *;generalize (kid 3).parts = P3 at *;have HW := Hd hn;clear hn;have z0 := (HC.out.bel.cell (p := ⟨b, o, none⟩) (blt_of_cell x00)).trans x00;have z1 := (HC.out.bel.cell (p := ⟨b, o + 1, none⟩) (blt_of_cell x01)).trans x01;have z2 := (HC.out.bel.cell (p := ⟨b, o + 2, none⟩) (blt_of_cell x02)).trans x02;have z3 := (HC.out.bel.cell (p := ⟨b, o + 3, none⟩) (blt_of_cell x03)).trans x03;have zb := HC.out.kp.cell HB3.out hne0 HNE.out;have HI := Hd (HK0.out q0 d0 _ _ _ HT0.out HC.out.bel HC.out.at_ (by have := HLN.out; have := HLE.out; (try simp only [List.length_append, List.length_cons, List.length_nil]); omega))
 go_enter Tryz.func69, Tryz.ntmps69
 go_wp2_with fail
 refine HI.out.mono ?_;clear z0 z1 z2 z3 zb HI;rintro e w9 ⟨rfl, v9, hmk, hkp⟩;have HC9 := Hd (HC.out.next hW hmk hkp);clear hmk hkp HC;have HC := HC9;clear HC9;have z0 := (HC.out.bel.cell (p := ⟨b, o + 4, none⟩) (blt_of_cell x10)).trans x10;have z1 := (HC.out.bel.cell (p := ⟨b, o + 4 + 1, none⟩) (blt_of_cell x11)).trans x11;have z2 := (HC.out.bel.cell (p := ⟨b, o + 4 + 2, none⟩) (blt_of_cell x12)).trans x12;have z3 := (HC.out.bel.cell (p := ⟨b, o + 4 + 3, none⟩) (blt_of_cell x13)).trans x13;have zb := HC.out.kp.cell HB3.out hne0 HNE.out;have HI := Hd (HK1.out q1 d1 _ _ _ HT1.out HC.out.bel HC.out.at_ (by have := HLN.out; have := HLE.out; (try simp only [List.length_append, List.length_cons, List.length_nil]); omega));go_wp2_with fail
 refine HI.out.mono ?_;clear z0 z1 z2 z3 zb HI;rintro e w9 ⟨rfl, v9, hmk, hkp⟩;have HC9 := Hd (HC.out.next hW hmk hkp);clear hmk hkp HC;have HC := HC9;clear HC9;obtain ⟨T, hT⟩ : ∃ T, (c ++ C0 ++ C1).length = T := ⟨_, rfl⟩;obtain ⟨xv, cv, hv, -⟩ := HC.out.at_.gr.slice;rw [hT] at hv;subst hv;have HTT := Hd hT;clear hT;have u4 := HC.out.at_.m4;have HI := Hd (mstep_any 15 0 mb b1 b2 b3 b4 _ _ _ HC.out.at_ (by have := HLN.out; have := HLE.out; (try simp only [List.length_append, List.length_cons, List.length_nil]); omega));go_wp2_with fail
 refine HI.out.mono ?_;clear HI;rintro e w9 ⟨rfl, v9, hmk, hkp⟩;have HC9 := Hd (HC.out.next hW hmk hkp);clear hmk hkp HC;have HC := HC9;clear HC9;clear u4;have z0 := (HC.out.bel.cell (p := ⟨b, o + 8, none⟩) (blt_of_cell x20)).trans x20;have z1 := (HC.out.bel.cell (p := ⟨b, o + 8 + 1, none⟩) (blt_of_cell x21)).trans x21;have z2 := (HC.out.bel.cell (p := ⟨b, o + 8 + 2, none⟩) (blt_of_cell x22)).trans x22;have z3 := (HC.out.bel.cell (p := ⟨b, o + 8 + 3, none⟩) (blt_of_cell x23)).trans x23;have zb := HC.out.kp.cell HB3.out hne0 HNE.out;have HI := Hd (HK2.out q2 d2 _ _ _ HT2.out HC.out.bel HC.out.at_ (by have := HLN.out; have := HLE.out; (try simp only [List.length_append, List.length_cons, List.length_nil]); omega));go_wp2_with fail
 refine HI.out.mono ?_;clear z0 z1 z2 z3 zb HI;rintro e w9 ⟨rfl, v9, hmk, hkp⟩;have HC9 := Hd (HC.out.next hW hmk hkp);clear hmk hkp HC;have HC := HC9;clear HC9;obtain ⟨J, hJ⟩ : ∃ T, (c ++ C0 ++ C1 ++ [(⟨15, 0⟩ : Bk)] ++ C2).length = T := ⟨_, rfl⟩;obtain ⟨xv2, cv2, hv, -⟩ := HC.out.at_.gr.slice;rw [hJ] at hv;subst hv;have HJJ := Hd hJ;clear hJ;have u4 := HC.out.at_.m4;have HI := Hd (mstep_any 14 0 mb b1 b2 b3 b4 _ _ _ HC.out.at_ (by have := HLN.out; have := HLE.out; (try simp only [List.length_append, List.length_cons, List.length_nil]); omega));go_wp2_with fail
 refine HI.out.mono ?_;clear HI;rintro e w9 ⟨rfl, v9, hmk, hkp⟩;have HC9 := Hd (HC.out.next hW hmk hkp);clear hmk hkp HC;have HC := HC9;clear HC9;clear u4;have z0 := (HC.out.bel.cell (p := ⟨b, o + 12, none⟩) (blt_of_cell x30)).trans x30;have z1 := (HC.out.bel.cell (p := ⟨b, o + 12 + 1, none⟩) (blt_of_cell x31)).trans x31;have z2 := (HC.out.bel.cell (p := ⟨b, o + 12 + 2, none⟩) (blt_of_cell x32)).trans x32;have z3 := (HC.out.bel.cell (p := ⟨b, o + 12 + 3, none⟩) (blt_of_cell x33)).trans x33;have zb := HC.out.kp.cell HB3.out hne0 HNE.out;have HI := Hd (HK3.out q3 d3 _ _ _ HT3.out HC.out.bel HC.out.at_ (by have := HLN.out; have := HLE.out; (try simp only [List.length_append, List.length_cons, List.length_nil]); omega));go_wp2_with fail
 refine HI.out.mono ?_;clear z0 z1 z2 z3 zb HI;rintro e w9 ⟨rfl, v9, hmk, hkp⟩;have HC9 := Hd (HC.out.next hW hmk hkp);clear hmk hkp HC;have HC := HC9;clear HC9;have z1 := HC.out.kp.cell HB1.out hne0 HNE.out;have hTT := HTT.out;have hJJ := HJJ.out;have hLN := HLN.out;have hLE := HLE.out;obtain ⟨L, hL⟩ : ∃ T, (c ++ C0 ++ C1 ++ [(⟨15, 0⟩ : Bk)] ++ C2 ++ [(⟨14, 0⟩ : Bk)] ++ C3).length = T := ⟨_, rfl⟩;have hT1 : T + 1 + C2.length = J /\ J + 1 + C3.length = L /\ L <= 200000 := by
  simp only [List.length_append, List.length_cons, List.length_nil] at hTT hJJ hL;omega
 rcases HC.out.at_.gr.form with ⟨-, h0⟩ | ⟨g, cv3, hv, -, hba, hfz⟩
 ·simp at h0
 rw [hL] at hv;subst hv;have HL := Hd hL;have hTL : T < L := by omega
 have hJL : J < L := by omega
 obtain ⟨zT0, zT1⟩ := hba.2 T (by omega);obtain ⟨zJ0, zJ1⟩ := hba.2 J (by omega);rw [Nat.zero_add] at zT0 zT1 zJ0 zJ1;have fT := hfz (T * 2 + 1);have fJ := hfz (J * 2 + 1);have u4 := HC.out.at_.m4;obtain ⟨D1, hD1⟩ : ∃ x : Int, (J : Int) - (T : Int) = x := ⟨_, rfl⟩;obtain ⟨D2, hD2⟩ : ∃ x : Int, 4 * D1 = x := ⟨_, rfl⟩;obtain ⟨D3, hD3⟩ : ∃ x : Int, n + D2 = x := ⟨_, rfl⟩;have hn := HW.out;have hw1 : IntKind.i64.wrap ((J : Int) - (T : Int)) = D1 := by rw [IntWalk.i64_in _ (by omega)]; exact hD1
 have hw2 : IntKind.i64.wrap (4 * D1) = D2 := by rw [IntWalk.i64_in _ (by omega)]; exact hD2
 have hw3 : IntKind.i64.wrap (n + D2) = D3 := by rw [IntWalk.i64_in _ (by omega)]; exact hD3
 have HDD : Hid (D3 = n + 4 * ((C2.length + 1 : Nat) : Int)) := Hd (by omega);have HXX := Hd hT1;have hTL' : (T : Int) < (L : Int) := by omega
 have hJL' : (J : Int) < (L : Int) := by omega
 clear hba hfz hTT hJJ hLN hLE hL hT1 hD1 hD2 hD3 hn;go_wp2_with fail
 go_region
 have hTX : (c ++ C0 ++ C1).length = T := HTT.out;have hXX := HXX.out;have hset := HC.out.at_.set HL.out hTL (q := 15) (y := 0) (by rw [<- hTX]; exact patch_at _ _ _) D3;have HCA := Hd ((HC.out.next hW hset.1 hset.2).drew);clear HC hset zT0 zT1 zJ0 zJ1 fT fJ u4 z1 hw1 hw2 hw3;generalize hc5 : ((c ++ C0 ++ C1 ++ [(⟨15, 0⟩ : Bk)] ++ C2 ++ [(⟨14, 0⟩ : Bk)] ++ C3).set T ⟨15, D3⟩) = c5 at HCA;have hL5 : c5.length = L := by rw [<- hc5, List.length_set]; exact HL.out
 have hJ5 : bnth c5 J = ⟨14, 0⟩ := by rw [<- hc5, <- hXX.1, <- hTX]; exact patch_at2 _ _ _ _
 rcases HCA.out.at_.gr.form with ⟨-, h0⟩ | ⟨g2, cv4, hv, -, hba, hfz⟩
 ·rw [h0] at hL5; simp at hL5; omega
 rw [hL5] at hv;injection hv with hv1 _ hv2
 injection hv1 with hv1
 injection hv1 with hv1
 subst hv1 hv2;obtain ⟨zJ0, zJ1⟩ := hba.2 J (by omega);rw [Nat.zero_add] at zJ0 zJ1;have fJ := hfz (J * 2 + 1);have u4 := HCA.out.at_.m4;obtain ⟨E1, hE1⟩ : ∃ x : Int, (L : Int) - (J : Int) = x := ⟨_, rfl⟩;obtain ⟨E2, hE2⟩ : ∃ x : Int, E1 - 1 = x := ⟨_, rfl⟩;have hw1 : IntKind.i64.wrap ((L : Int) - (J : Int)) = E1 := by rw [IntWalk.i64_in _ (by omega)]; exact hE1
 have hw2 : IntKind.i64.wrap (E1 - 1) = E2 := by rw [IntWalk.i64_in _ (by omega)]; exact hE2
 have HEE : Hid (E2 = ((C3.length : Nat) : Int)) := Hd (by omega);have HC5 := Hd (And.intro hc5 (And.intro hL5 hJ5));have HTX := Hd (And.intro hTX hXX);clear hba hfz hc5 hL5 hJ5 hTX hXX hE1 hE2;generalize (w9.setCell ⟨g, T * 2 + 1, none⟩ (.int .i64 D3)).drew = WA at *;go_wp2_with fail
 go_region
 have hset := HCA.out.at_.set HC5.out.2.1 hJL HC5.out.2.2 E2;have HCB := Hd ((HCA.out.next hW hset.1 hset.2).drew);clear hset HCA zJ0 zJ1 fJ u4 hw1 hw2;go_wp2_with fail
 refine bodyPost_end (v := .tuple #[]) (by simp [results, Tryz.results69, go_sem]) rfl ?_;refine ⟨rfl, _, ?_, HKB.out.trans HCB.out.kp⟩;have hl : c5.set J ⟨14, E2⟩ = c ++ (C0 ++ (C1 ++ ((⟨15, n + 4 * ((C2.length + 1 : Nat) : Int)⟩ : Bk) :: (C2 ++ ((⟨14, ((C3.length : Nat) : Int)⟩ : Bk) :: C3))))) := by
  obtain ⟨h5, -, -⟩ := HC5.out;obtain ⟨hTX, hX1, -⟩ := HTX.out;rw [<- h5, <- hX1, <- hTX, patch_if, HDD.out, HEE.out];simp [List.append_assoc]
 have hfin := HCB.out.at_;rw [hl] at hfin;exact hfin
def Doo (w : World) : Prop := ∀ q : Nat, (q = 1 \/ q = 4 \/ 6 <= q) -> q <= 12 -> w.cell? ⟨0, q, none⟩ = some (.int .i64 (if q = 1 then 1 else ((q + 1 : Nat) : Int)))
theorem Doo.below {w w' : World} (h : Doo w) (hb : Below w.heap.size w w') : Doo w' := fun q h1 h2 => (hb.cell (p := ⟨_, q, none⟩) (blt_of_cell (h q h1 h2))).trans (h q h1 h2)
theorem kbox4a (w : World) (v0 v1 v2 v3 : Value) (T : TypeId) : (w.alloc (.cells #[v0, v1, v2, v3] T)).cell? ⟨w.heap.size, 0, none⟩ = some v0 /\ (w.alloc (.cells #[v0, v1, v2, v3] T)).cell? ⟨w.heap.size, 1, none⟩ = some v1 /\ (w.alloc (.cells #[v0, v1, v2, v3] T)).cell? ⟨w.heap.size, 2, none⟩ = some v2 := by
 refine ⟨?_, ?_, ?_⟩ <;> simp
theorem sumN_lt {f : Nat -> Nat} : ∀ {m j : Nat}, j < m -> sumN f j + f j <= sumN f m
 | 0, j, h => by omega
 | m + 1, j, h => by
   by_cases e : j = m
   ·subst e; exact Nat.le_refl _
   ·have := sumN_lt (f := f) (m := m) (j := j) (by omega)
    show _ <= sumN f m + f m
    omega
theorem mexpr_13 (l : List Ln) (kn : Kn) (W1 : World) (mb b1 b2 b3 b4 : Nat) (hW : W1.heap.size <= mb) (n : Int) (hn : 1 <= n /\ n <= 3) (s : ByteArray) (kid : Nat -> Ex) (i : ∀ j, j < 4 -> MExIs l kn W1 mb b1 b2 b3 b4 (kid j)) (hcl : ∀ j, j < 4 -> ((kid j).code l kn).length <= 2 * (kid j).parts) : MExIs l kn W1 mb b1 b2 b3 b4 (.mk 13 n s 4 kid) := by
 intro a cap v c w ht hb hmk hlen
 show Calls Tryz.prog 25 #[.pointer (some ⟨mb, 0, none⟩), .agg #[.int .i64 13, .int .i64 n, .string s, .slice a (4 : Nat) cap]] w _
 have HKB := Hd (KpM.of (mb := mb) (v := v) (kbelow_box w (.cells #[.int .i64 13, .int .i64 n, .string s, .slice a (4 : Nat) cap] 50)));have HI := Hd (mchoice_any l kn W1 mb b1 b2 b3 b4 hW n hn s kid i a cap v c _ ht (hb.trans ((kbelow_box w (.cells #[.int .i64 13, .int .i64 n, .string s, .slice a (4 : Nat) cap] 50)).mono hb.size)) (hmk.below (kbelow_box w _)) hlen hcl);clear ht hb hmk hlen hcl i;generalize (Ex.mk 13 n s 4 kid).code l kn = C at *
 go_enter Tryz.func25, Tryz.ntmps25
 go_wp2_with fail
 refine HI.out.mono ?_;rintro e w9 ⟨rfl, v9, hmk, hkp⟩;have HR : Hid (MkRet w mb b1 b2 b3 b4 v (c ++ C) (.returned (.tuple #[])) w9) := Hd ⟨rfl, v9, hmk, HKB.out.trans hkp⟩;clear hmk hkp HI HKB;go_wp2_with fail
 refine bodyPost_ret (v := .tuple #[]) (by simp [results, Tryz.results25, go_sem]) rfl ?_;exact HR.out
def OwnStep (l : List Ln) (kn : Kn) (k n : Int) (s : ByteArray) : Prop := k = 2 \/ k = 3 \/ k = 5 \/ ∃ q : Nat, (q = 1 \/ q = 4 \/ 6 <= q) /\ q <= 12 /\ k = (q : Int) /\ stepOf l kn k n s = ⟨if q = 1 then 1 else ((q + 1 : Nat) : Int), n⟩
theorem own_step (l : List Ln) (kn : Kn) {k : Int} (n : Int) (s : ByteArray) (h1 : 1 <= k) (h2 : k <= 12) : OwnStep l kn k n s := by
 have hc : k = 1 \/ k = 2 \/ k = 3 \/ k = 4 \/ k = 5 \/ k = 6 \/ k = 7 \/ k = 8 \/ k = 9 \/ k = 10 \/ k = 11 \/ k = 12 := by omega
 rcases hc with rfl | rfl | rfl | rfl | rfl | rfl | rfl | rfl | rfl | rfl | rfl | rfl
 ·exact .inr (.inr (.inr ⟨1, by omega, by omega, rfl, rfl⟩))
 ·exact .inl rfl
 ·exact .inr (.inl rfl)
 ·exact .inr (.inr (.inr ⟨4, by omega, by omega, rfl, rfl⟩))
 ·exact .inr (.inr (.inl rfl))
 ·exact .inr (.inr (.inr ⟨6, by omega, by omega, rfl, rfl⟩))
 ·exact .inr (.inr (.inr ⟨7, by omega, by omega, rfl, rfl⟩))
 ·exact .inr (.inr (.inr ⟨8, by omega, by omega, rfl, rfl⟩))
 ·exact .inr (.inr (.inr ⟨9, by omega, by omega, rfl, rfl⟩))
 ·exact .inr (.inr (.inr ⟨10, by omega, by omega, rfl, rfl⟩))
 ·exact .inr (.inr (.inr ⟨11, by omega, by omega, rfl, rfl⟩))
 ·exact .inr (.inr (.inr ⟨12, by omega, by omega, rfl, rfl⟩))
theorem mexpr_other (l : List Ln) (kn : Kn) (W1 : World) (mb b1 b2 b3 b4 : Nat) (hW : W1.heap.size <= mb) (hM : MeantIs W1 b1 b2 b3 b4 l kn) (hD : Doo W1) (k n : Int) (hk1 : 1 <= k) (hk2 : k <= 12) (s : ByteArray) (m : Nat) (kid : Nat -> Ex) (i : ∀ j, j < m -> MExIs l kn W1 mb b1 b2 b3 b4 (kid j)) (hcl : ∀ j, j < m -> ((kid j).code l kn).length <= 2 * (kid j).parts) : MExIs l kn W1 mb b1 b2 b3 b4 (.mk k n s m kid) := by
 intro a cap v c w ht hb hmk hlen
 show Calls Tryz.prog 25 #[.pointer (some ⟨mb, 0, none⟩), .agg #[.int .i64 k, .int .i64 n, .string s, .slice a m cap]] w _
 have HC0 := Hd (Ch.made hb hmk (.cells #[.int .i64 k, .int .i64 n, .string s, .slice a m cap] 50));have HKB := Hd (KpM.of (mb := mb) (v := v) (kbelow_box w (.cells #[.int .i64 k, .int .i64 n, .string s, .slice a m cap] 50)));have HBX := Hd (kbox4a w (.int .i64 k) (.int .i64 n) (.string s) (.slice a m cap) 50);have hmlt := hmk.lt;have hne0 : w.heap.size ≠ mb := by omega
 have HNE : Hid (some w.heap.size ≠ v.ownBlock) := Hd (hmk.ne (.inr (Nat.le_refl _)));have hm9 : m <= 9223372036854775807 := by have := ht.many; unfold maxLen at this; exact this
 have HSZ : Hid (s.size <= maxLen) := Hd ht.name;have HT := Hd ht;have HIH := Hd i;have HCD : Hid ((Ex.mk k n s m kid).code l kn = catN (fun j => (kid j).code l kn) m ++ [stepOf l kn k n s]) := Hd (by rw [Ex.code, if_neg (by omega)]);have HLN : Hid (c.length + 2 * (1 + sumN (fun j => (kid j).parts) m) <= 100000) := Hd hlen;have HLE : Hid (∀ j, j <= m -> (catN (fun j => (kid j).code l kn) j).length <= 2 * sumN (fun j => (kid j).parts) j) := Hd (fun j hj => by rw [catN_len]; exact sumN_two (fun q hq => hcl q (by omega)));have HMD := Hd (And.intro hM hD);have HOS := Hd (own_step l kn n s hk1 hk2);rw [HCD.out];have hk13 : decide (k = 13) = false := dEf (by omega);have hk13b : (k == 13) = false := by simp; omega
 clear ht hb hmk hlen i hcl hM hD HCD hk1 hk2
 go_enter Tryz.func25, Tryz.ntmps25
 go_wp2_with fail
 clear hk13 hk13b
 go_loopw [15] (fun i wr => ∃ (j : Nat) (vr : Value), j <= m /\ i = .int .i64 j /\ Ch W1 (w.alloc (.cells #[.int .i64 k, .int .i64 n, .string s, .slice a m cap] 50)) mb b1 b2 b3 b4 v wr vr (c ++ catN (fun j => (kid j).code l kn) j)) (fun i _ => m - (intOf i).toNat)
 case atStart => exact ⟨0, v, Nat.zero_le _, rfl, by simpa [catN] using HC0.out⟩
 case round =>
  obtain ⟨j, vr, hj, rfl, hc⟩ := hrel;have HC := Hd hc;clear hc
  by_cases hlt : j < m
  ·have hlt' : (j : Int) < (m : Int) := by omega
   obtain ⟨b, off, rfl, hcell⟩ := HT.out.open (show 0 < m by omega);obtain ⟨aj, cj, ⟨y0, y1, y2, y3⟩, hkj⟩ := hcell W1 (Below.refl _ _) j hlt;have x0 := (HC.out.bel.cell (p := ⟨b, off + j * 4, none⟩) (blt_of_cell y0)).trans y0;have x1 := (HC.out.bel.cell (p := ⟨b, off + j * 4 + 1, none⟩) (blt_of_cell y1)).trans y1;have x2 := (HC.out.bel.cell (p := ⟨b, off + j * 4 + 2, none⟩) (blt_of_cell y2)).trans y2;have x3 := (HC.out.bel.cell (p := ⟨b, off + j * 4 + 3, none⟩) (blt_of_cell y3)).trans y3;have x0' : wr.cell? ⟨b, off + j * 4, none⟩ = some (.int .i64 (kid j).k) := x0;have x1' : wr.cell? ⟨b, off + j * 4 + 1, none⟩ = some (.int .i64 (kid j).n) := x1;have x2' : wr.cell? ⟨b, off + j * 4 + 2, none⟩ = some (.string (kid j).s) := x2;have x3' : wr.cell? ⟨b, off + j * 4 + 3, none⟩ = some (.slice aj (kid j).m cj) := x3;have HCJ := Hd (HC.out.below (kbelow_box wr (.cells #[.int .i64 (kid j).k, .int .i64 (kid j).n, .string (kid j).s, .slice aj (kid j).m cj] 50)));have HI := Hd (HIH.out j hlt aj cj _ _ _ hkj HCJ.out.bel HCJ.out.at_ (by have h1 := HLN.out; have h2 := HLE.out j hj; have h3 := sumN_lt (f := fun j => (kid j).parts) hlt; simp only [List.length_append]; omega));clear hcell hkj y0 y1 y2 y3 x0 x1 x2 x3;go_wp2_with fail
   refine HI.out.mono ?_;rintro e w9 ⟨rfl, v9, hmk, hkp⟩;have HC9 := Hd (HCJ.out.next hW hmk hkp);clear hmk hkp HI x0' x1' x2' x3';go_wp2_with fail
   go_roundw
   case rel => exact ⟨j + 1, v9, by omega, by go_num, by have h := HC9.out; rw [List.append_assoc] at h; exact h⟩
   case measure => simp [intOf]; omega
  ·obtain rfl : j = m := by omega
   have hjB : decide ((j : Int) < (j : Int)) = false := dEf (by omega);obtain ⟨hx0, hx1, hx2⟩ := HBX.out;have z0 := HC.out.kp.cell hx0 hne0 HNE.out;have z1 := HC.out.kp.cell hx1 hne0 HNE.out;have z2 := HC.out.kp.cell hx2 hne0 HNE.out;have HLC : Hid ((c ++ catN (fun j => (kid j).code l kn) j).length <= 100000) := Hd (by have h1 := HLN.out; have h2 := HLE.out j (Nat.le_refl _); simp only [List.length_append]; omega);clear hx0 hx1 hx2 HIH
   rcases HOS.out with rfl | rfl | rfl | ⟨q, hq1, hq2, rfl, hst⟩
   ·have HI := Hd (mnamed_any s n l kn mb b1 b2 b3 b4 vr _ wr HSZ.out HC.out.at_ HLC.out (HMD.out.1.below HC.out.bel));go_wp2_with fail
    refine HI.out.mono ?_;rintro e w8 ⟨rfl, v8, hmk, hkp⟩;have HR : Hid (MkRet w mb b1 b2 b3 b4 v (c ++ (catN (fun j => (kid j).code l kn) j ++ [stepOf l kn 2 n s])) (.returned (.tuple #[])) w8) := Hd ⟨rfl, v8, by rw [<- List.append_assoc]; exact hmk, HKB.out.trans (HC.out.kp.trans hkp)⟩;clear hmk hkp;go_wp2_with fail
    refine bodyPost_end (v := .tuple #[]) (by simp [results, Tryz.results25, go_sem]) rfl ?_;exact HR.out
   ·have HI := Hd (minYear_any s n l kn mb b1 b2 b3 b4 vr _ wr HSZ.out HC.out.at_ HLC.out (HMD.out.1.below HC.out.bel));go_wp2_with fail
    refine HI.out.mono ?_;rintro e w8 ⟨rfl, v8, hmk, hkp⟩;have HR : Hid (MkRet w mb b1 b2 b3 b4 v (c ++ (catN (fun j => (kid j).code l kn) j ++ [stepOf l kn 3 n s])) (.returned (.tuple #[])) w8) := Hd ⟨rfl, v8, by rw [<- List.append_assoc]; exact hmk, HKB.out.trans (HC.out.kp.trans hkp)⟩;clear hmk hkp;go_wp2_with fail
    refine bodyPost_end (v := .tuple #[]) (by simp [results, Tryz.results25, go_sem]) rfl ?_;exact HR.out
   ·have hkey := key_of HSZ.out;obtain ⟨E, hownE, hE⟩ := (HMD.out.1.below HC.out.bel).2.2.1.below (show Below wr.heap.size wr wr.drew from kbelow_dN (Below.refl _ _) 1);obtain ⟨c1, hrun, hat, _⟩ := hownE.lookup_int strLaw Tryz.underlying57 Tryz.underlying3 (zeroInt _) hkey;obtain rfl := lit_int (hat.symm.trans (show E.atKey (.string s.data.toList) (.lit (.int .i64 0)) = .lit (.int .i64 (((tbsG kn s).getD 0 : Nat) : Int)) from (hE s).2));have HST : Hid (stepOf l kn 5 n s = ⟨6, (((tbsG kn s).getD 0 : Nat) : Int)⟩) := Hd (by unfold stepOf; rw [if_neg (by decide), if_neg (by decide), if_neg (by decide), if_pos rfl]);have m2 := HC.out.at_.m2;have HI := Hd (fun w' (hb : Below wr.heap.size wr w') => mstep_any 6 (((tbsG kn s).getD 0 : Nat) : Int) mb b1 b2 b3 b4 vr _ w' (HC.out.at_.below hb) HLC.out);have hne1 : some w.heap.size ≠ vr.ownBlock := fun e => by
     rcases HC.out.kp.row with h | ⟨g, h, hg⟩
     ·exact HNE.out (e.trans h)
     ·rw [h] at e; injection e with e; simp at hg; omega
    generalize (((tbsG kn s).getD 0 : Nat) : Int) = z at *;clear hat hE hownE;go_wp2_with fail
    go_region_held (fun w' => w'.cell? ⟨w.heap.size, 2, none⟩ = some (.string s) /\ w'.cell? ⟨mb, 2, none⟩ = some (.map (some b3))) (go_keep)
     (first
      | (go_at_call 26; refine (HI.out _ (kbelow_dN (Below.refl _ _) 1)).mono ?_
         rintro e w8 ⟨rfl, v8, hmk, hkp⟩;have r0 := hkp.cell z2 hne0 hne1;have r1 := hmk.m2;have HR : Hid (MkRet w mb b1 b2 b3 b4 v (c ++ (catN (fun j => (kid j).code l kn) j ++ [stepOf l kn 5 n s])) (.returned (.tuple #[])) w8) := Hd ⟨rfl, v8, by rw [<- List.append_assoc, HST.out]; exact hmk, HKB.out.trans (HC.out.kp.trans ((KpM.of (kbelow_dN (Below.refl _ _) 1)).trans hkp))⟩;clear hmk hkp))
    go_wp2_with fail
    refine bodyPost_end (v := .tuple #[]) (by simp [results, Tryz.results25, go_sem]) rfl ?_;exact HR.out
   ·have hD := (HMD.out.2.below HC.out.bel) q hq1 hq2;have hq3 : (q : Int) < 13 := by omega
    have HST := Hd hst;have HI := Hd (fun w' (hb : Below wr.heap.size wr w') => mstep_any (if q = 1 then 1 else ((q + 1 : Nat) : Int)) n mb b1 b2 b3 b4 vr _ w' (HC.out.at_.below hb) HLC.out);have hne1 : some w.heap.size ≠ vr.ownBlock := fun e => by
     rcases HC.out.kp.row with h | ⟨g, h, hg⟩
     ·exact HNE.out (e.trans h)
     ·rw [h] at e; injection e with e; simp at hg; omega
    have hneG : (0 : Nat) ≠ mb := by have := blt_of_cell (HMD.out.2 q hq1 hq2); omega
    have hne2 : some (0 : Nat) ≠ vr.ownBlock := HC.out.at_.ne (.inl (by have := blt_of_cell (HMD.out.2 q hq1 hq2); omega));have hB2 : decide ((q : Int) = 2) = false := dEf (by omega);have hB3 : decide ((q : Int) = 3) = false := dEf (by omega);have hB5 : decide ((q : Int) = 5) = false := dEf (by omega);have hC2 : ((q : Int) == 2) = false := by simp; omega
    have hC3 : ((q : Int) == 3) = false := by simp; omega
    have hC5 : ((q : Int) == 5) = false := by simp; omega
    generalize (if q = 1 then 1 else ((q + 1 : Nat) : Int)) = dq at *;clear hst hq1 hq2;go_wp2_with fail
    go_region_held (fun w' => w'.cell? ⟨w.heap.size, 0, none⟩ = some (.int .i64 (q : Int)) /\ w'.cell? ⟨w.heap.size, 1, none⟩ = some (.int .i64 n) /\ w'.cell? ⟨0, q, none⟩ = some (.int .i64 dq)) (go_keep)
     (first
      | (go_at_call 26; refine (HI.out _ (kbelow_dN (Below.refl _ _) 1)).mono ?_
         rintro e w8 ⟨rfl, v8, hmk, hkp⟩;have r0 := hkp.cell z0 hne0 hne1;have r1 := hkp.cell z1 hne0 hne1;have r2 := hkp.cell hD hneG hne2;have HR : Hid (MkRet w mb b1 b2 b3 b4 v (c ++ (catN (fun j => (kid j).code l kn) j ++ [stepOf l kn (q : Int) n s])) (.returned (.tuple #[])) w8) := Hd ⟨rfl, v8, by rw [<- List.append_assoc, HST.out]; exact hmk, HKB.out.trans (HC.out.kp.trans ((KpM.of (kbelow_dN (Below.refl _ _) 1)).trans hkp))⟩;clear hmk hkp))
    go_wp2_with fail
    refine bodyPost_end (v := .tuple #[]) (by simp [results, Tryz.results25, go_sem]) rfl ?_;exact HR.out
theorem mexpr_any {l : List Ln} {kn : Kn} {W1 : World} {mb b1 b2 b3 b4 : Nat} {ok tb : ByteArray -> Prop} (hW : W1.heap.size <= mb) (hM : MeantIs W1 b1 b2 b3 b4 l kn) (hD : Doo W1) (x : Ex) : x.fit ok tb -> MExIs l kn W1 mb b1 b2 b3 b4 x := by
 induction x with
 | no => intro h; exact h.elim
 | mk k n s m kid ih =>
   rintro ⟨⟨h1, h13, hm, hl, hu⟩, _, hk⟩
   by_cases hk13 : k = 13
   ·subst hk13;obtain rfl : m = 4 := by have : kidsOf 13 = 4 := (by decide); omega
    have e1 : leastOf 13 = 1 := by decide
    have e2 : mostOf 13 = 3 := by decide
    exact mexpr_13 l kn W1 mb b1 b2 b3 b4 hW n (by omega) s kid (fun j hj => ih j (hk j hj)) (fun j hj => code_len _ (hk j hj))
   ·exact mexpr_other l kn W1 mb b1 b2 b3 b4 hW hM hD k n h1 (by omega) s m kid (fun j hj => ih j (hk j hj)) (fun j hj => code_len _ (hk j hj))
def MakeR (l : List Ln) (k : Kn) (w : World) (e : Ending) (w' : World) : Prop :=
 Below w.heap.size w w' /\ ((∃ i er : Int, er ≠ 0 /\ BindIs l k i er /\ e = .returned (.tuple #[.slice none 0 0, .int .i64 er])) ∨
  (LinesOk l k /\ ∃ v B, w.heap.size <= B /\ GrowO w' B v (linesC l k l.length) /\ e = .returned (.tuple #[v, .int .i64 0])))
theorem BindIs.right {l : List Ln} {k : Kn} {i : Int} (h : BindIs l k i 0) : linesE l = 0 /\ knE k = 0 /\ ∀ j, j < l.length -> lineOk l k j = 0 := by
 rcases h with ⟨q1, _, q2⟩ | ⟨_, q1, _, q2⟩ | ⟨q1, q2, ⟨_, _, q3⟩ | ⟨_, _, _, _, q, _⟩⟩
 ·exact absurd q2.symm q1
 ·exact absurd q2.symm q1
 ·exact ⟨q1, q2, q3⟩
 ·exact absurd rfl q
theorem CameL.wholes {w : World} {a : Option Addr} {l : List Ln} (h : CameL w a l) : ∀ q, q < l.length -> (lnth l q).ex.whole := fun q hq => by
 obtain ⟨_, _, _, h⟩ := h.open rfl (by omega);obtain ⟨_, _, _, _, hk⟩ := h w (Below.refl _ _) q hq;exact hk.whole
theorem sumP_lt {l : List Ln} : ∀ {m j : Nat}, j < m -> sumP l j + (lnth l j).ex.parts <= sumP l m
 | 0, j, h => by omega
 | m + 1, j, h => by
   by_cases e : j = m
   ·subst e; exact Nat.le_refl _
   ·have := sumP_lt (l := l) (m := m) (j := j) (by omega)
    show _ <= sumP l m + (lnth l m).ex.parts
    omega
theorem linesE_4000 {l : List Ln} (h : linesE l = 0) : sumP l l.length <= 4000 := by
 unfold linesE at h
 split at h
 ·cases h
 ·omega
theorem mk_made (w : World) (b1 b2 b3 b4 : Nat) (T : TypeId) : MkAt (w.alloc (.cells #[.map (some b1), .map (some b2), .map (some b3), .map (some b4), .slice none 0 0] T)) w.heap.size b1 b2 b3 b4 (.slice none 0 0) [] :=
 ⟨by simp, by simp, by simp, by simp, by simp, by simp, GrowO.nil _ _⟩
theorem Make_any (a : Option Addr) (n cap : Nat) (l : List Ln) (a1 a2 a3 : Option Addr) (n1 n2 n3 c1 c2 c3 : Nat) (k : Kn) (w : World) (hS : Shp w) (hD : Doo w) (hl : CameL w a l) (hn : l.length = n) (hm : n <= maxLen) (hc : CameK w a1 a2 a3 k) (h1 : k.ins.length = n1) (h2 : k.tbs.length = n2) (h3 : k.yrs.length = n3) :
 Calls Tryz.prog 6 #[.slice a n cap, .agg #[.slice a1 n1 c1, .slice a2 n2 c2, .slice a3 n3 c3]] w fun e w' => MakeR l k w e w' := by
 have HM := Hd hm;have HL := Hd hl;have HN := Hd hn;have HC := Hd hc;have HS := Hd (And.intro hS hD);have H1 := Hd h1;have H2 := Hd h2;have H3 := Hd h3;clear hl hn hc h1 h2 h3 hm hS hD;have HB0 := Hd (kbelow_box w (.cells #[.slice a1 n1 c1, .slice a2 n2 c2, .slice a3 n3 c3] 26));have HK0 := Hd (KAt.made w (.slice a1 n1 c1) (.slice a2 n2 c2) (.slice a3 n3 c3) 26);obtain ⟨_, x0, x1, x2⟩ := HK0.out
 go_enter Tryz.func6, Tryz.ntmps6
 go_wp2_with fail
 refine (Lines_any a n cap l a1 a2 a3 n1 n2 n3 c1 c2 c3 k _ (HS.out.1.below HB0.out) (HL.out.below HB0.out) HN.out HM.out (HC.out.below HB0.out) H1.out H2.out H3.out).mono ?_;rintro e w1 ⟨i1, er, rfl, hbi, hb1⟩;have HB1 := Hd (HB0.out.trans (hb1.mono HB0.out.size));have HK1 := Hd (KAt.below HK0.out hb1);clear hb1 x0 x1 x2 HK0 HB0
 by_cases hz : er = 0
 ·subst hz;have HOK : Hid (LinesOk l k) := Hd ⟨hbi.right.1, hbi.right.2.1, hbi.right.2.2, HL.out.wholes⟩;clear hbi;have h40 : n <= 40 := by have := linesE_40 HOK.out.err; have := HN.out; omega
  have h30 := knE_30 HOK.out.known;have HLF : Hid (∀ j, j < n -> (lnth l j).name.size <= maxLen) := fun j hj => by
   obtain ⟨_, _, _, h⟩ := HL.out.open HN.out (by omega);obtain ⟨_, _, _, h, _⟩ := h w (Below.refl _ _) j hj;exact h
  have HTF : Hid (∀ j, j < n2 -> (tnth k.tbs j).name.size <= maxLen) := fun j hj => by
   obtain ⟨_, _, _, h⟩ := HC.out.2.1.open H2.out (by omega);obtain ⟨_, _, _, _, _, h, _⟩ := h w (Below.refl _ _) j hj;exact h
  obtain ⟨_, x0, x1, x2⟩ := HK1.out;have HME := Hd (meantIn_any a n cap l a1 a2 a3 n1 n2 n3 c1 c2 c3 k w1 (HL.out.below HB1.out) HN.out h40 HLF.out (HC.out.below HB1.out) HTF.out H1.out H2.out H3.out (by have := H1.out; omega) (by have := H2.out; omega) (by have := H3.out; omega));clear HLF HTF h30;go_wp2_with fail
  refine HME.out.mono ?_;rintro e w2 ⟨b1, b2, b3, b4, rfl, -, -, -, -, hmt, hb2⟩;have HMT := Hd hmt;have HB2 := Hd (HB1.out.trans (hb2.mono HB1.out.size));have HMA := Hd (mk_made w2 b1 b2 b3 b4 62);have HBX := Hd (kbelow_box w2 (.cells #[.map (some b1), .map (some b2), .map (some b3), .map (some b4), .slice none 0 0] 62));clear hmt hb2 HME x0 x1 x2 HK1;go_wp2_with fail
  go_loopw [27] (fun i wr => ∃ (j : Nat) (vr : Value), j <= n /\ i = .int .i64 j /\ Ch w2 (w2.alloc (.cells #[.map (some b1), .map (some b2), .map (some b3), .map (some b4), .slice none 0 0] 62)) w2.heap.size b1 b2 b3 b4 (.slice none 0 0) wr vr (linesC l k j)) (fun i _ => n - (intOf i).toNat)
  case atStart => exact ⟨0, _, Nat.zero_le _, rfl, HBX.out, HMA.out, .of (Below.refl _ _)⟩
  case round =>
   obtain ⟨j, vr, hj, rfl, hch⟩ := hrel;have HCH := Hd hch;clear hch
   by_cases hlt : j < n
   ·have hlt' : (j : Int) < (n : Int) := by omega
    have hjl : j < l.length := by have := HN.out; omega
    obtain ⟨b, off, rfl, hcell⟩ := HL.out.open HN.out (by omega);obtain ⟨aj, cj, ⟨y0, y1, y2, y3, y4, y5⟩, -, hkj⟩ := hcell w2 HB2.out j hlt;have x0 := (HCH.out.bel.cell (p := ⟨b, _, none⟩) (blt_of_cell y0)).trans y0;have x1 := (HCH.out.bel.cell (p := ⟨b, _, none⟩) (blt_of_cell y1)).trans y1;have x2 := (HCH.out.bel.cell (p := ⟨b, _, none⟩) (blt_of_cell y2)).trans y2;have x3 := (HCH.out.bel.cell (p := ⟨b, _, none⟩) (blt_of_cell y3)).trans y3;have x4 := (HCH.out.bel.cell (p := ⟨b, _, none⟩) (blt_of_cell y4)).trans y4;have x5 := (HCH.out.bel.cell (p := ⟨b, _, none⟩) (blt_of_cell y5)).trans y5;have HCJ := Hd (HCH.out.below (kbelow_box wr (.cells #[.int .i64 (lnth l j).kind, .string (lnth l j).name, .int .i64 (lnth l j).ex.k, .int .i64 (lnth l j).ex.n, .string (lnth l j).ex.s, .slice aj (lnth l j).ex.m cj] 52)));have hsz : (linesC l k j).length + 2 * (lnth l j).ex.parts <= 8080 := by
     have h1 := linesC_len HOK.out j (by omega);have h2 := sumP_lt (l := l) hjl;have h3 := linesE_4000 HOK.out.err;omega
    have HI := Hd (mexpr_any (Nat.le_refl _) HMT.out (HS.out.2.below HB2.out) _ (HOK.out.fit hjl) aj cj _ _ _ hkj HCJ.out.bel HCJ.out.at_ (by omega))
    have HSZ : Hid ((linesC l k j ++ (lnth l j).ex.code l k).length <= 100000) := Hd (by
     have h1 := code_len (l := l) (kn := k) _ (HOK.out.fit hjl);simp only [List.length_append];omega)
    clear hcell hkj y0 y1 y2 y3 y4 y5 hsz;generalize hC : (lnth l j).ex.code l k = C at *;have HCD : Hid (linesC l k (j + 1) = linesC l k j ++ (C ++ [⟨16, (j : Int)⟩])) := Hd (by rw [linesC, hC]);clear hC;generalize (lnth l j).kind = q0 at *;generalize (lnth l j).name = q1 at *;generalize (lnth l j).ex.k = q2 at *;generalize (lnth l j).ex.n = q3 at *;generalize (lnth l j).ex.s = q4 at *;generalize (lnth l j).ex.m = q5 at *;go_wp2_with fail
    refine HI.out.mono ?_;rintro e w9 ⟨rfl, v9, hmk, hkp⟩;have HC9 := Hd (HCJ.out.next (Nat.le_refl _) hmk hkp);have HI2 := Hd (mstep_any 16 (j : Int) w2.heap.size b1 b2 b3 b4 v9 _ w9 hmk HSZ.out);clear hmk hkp HI x0 x1 x2 x3 x4 x5 HCJ;go_wp2_with fail
    refine HI2.out.mono ?_;rintro e w8 ⟨rfl, v8, hmk, hkp⟩;have HC8 := Hd (HC9.out.next (Nat.le_refl _) hmk hkp);clear hmk hkp HI2 HC9;go_wp2_with fail
    go_roundw
    case rel => exact ⟨j + 1, v8, by omega, by go_num, by rw [HCD.out, <- List.append_assoc]; exact HC8.out⟩
    case measure => simp [intOf]; omega
   ·obtain rfl : j = n := by omega
    have hjB : decide ((j : Int) < (j : Int)) = false := dEf (by omega);have u4 := HCH.out.at_.m4;have HBW := Hd (HB2.out.trans (HCH.out.bel.mono HB2.out.size));go_wp2_with fail
    go_ret2
    exact ⟨HBW.out, .inr ⟨HOK.out, vr, w2.heap.size + 1, by have := HB2.out.size; omega, by rw [HN.out]; exact HCH.out.at_.gr, rfl⟩⟩
 ·have hzB : (er != 0) = true := by simp [hz]
  have HNE := Hd hz;have HBI := Hd hbi;clear hz hbi;go_wp2_with fail
  go_ret2
  exact ⟨HB1.out, .inl ⟨i1, er, HNE.out, HBI.out, rfl⟩⟩
end Go.Proofs.YtmlpedgcpffpnaaGreatDoor
