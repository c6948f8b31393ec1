/-
  Promise F1: lists of lines of the call's own, that a line is appended to; what the deferred closure of parse does.
-/
import Derived.Test.YtmlpedgcpffpnaaGreatDoorKQO
import Derived.Test.YtmlpedgcpffpnaaGreatDoorKQ2
import Derived.Maps.AppendAt
import Derived.Deep.RegionLaw
import Derived.Defers
import Derived.Laws.Pointers
import Derived.Test.YtmlpedgcpffpnaaGreatDoorKQL
import Derived.Test.YtmlpedgcpffpnaaGreatDoorKZ0
import Derived.Test.YtmlpedgcpffpnaaGreatDoorKZ1
import Derived.Recover
import Derived.Deep.RegionHeldLaw
import Derived.Test.YtmlpedgcpffpnaaGreatDoorKQM
set_option linter.unusedSimpArgs false
set_option maxRecDepth 100000
set_option maxHeartbeats 8000000
namespace Go.Proofs.YtmlpedgcpffpnaaGreatDoor
open Go.RowKit
structure LnC where
 l : Ln
 a : Option Addr
 c : Nat
def cellsN : List LnC -> List Value
 | [] => []
 | r :: l => lnL r.l r.a r.c ++ cellsN l
def lcth (l : List LnC) (j : Nat) : LnC := l.getD j ⟨⟨0, ⟨#[]⟩, .no⟩, none, 0⟩
theorem lnL_len (l : Ln) (a : Option Addr) (c : Nat) : (lnL l a c).length = 6 := rfl
theorem cellsN_length : ∀ l : List LnC, (cellsN l).length = l.length * 6
 | [] => rfl
 | r :: l => by
   rw [cellsN, List.length_append, cellsN_length l, List.length_cons, lnL_len];omega
theorem cellsN_append : ∀ l m : List LnC, cellsN (l ++ m) = cellsN l ++ cellsN m
 | [], _ => rfl
 | r :: l, m => by rw [List.cons_append, cellsN, cellsN, cellsN_append l m, List.append_assoc]
theorem cellsN_get : ∀ (l : List LnC) (k c : Nat), k < l.length -> c < 6 -> (cellsN l)[k * 6 + c]? = (lnL (lcth l k).l (lcth l k).a (lcth l k).c)[c]?
 | [], k, c, hk, _ => absurd hk (by simp)
 | r :: l, 0, c, _, hc => by
   rw [cellsN, List.getElem?_append_left (by rw [lnL_len]; omega), Nat.zero_mul, Nat.zero_add];rfl
 | r :: l, k + 1, c, hk, hc => by
   rw [cellsN, List.getElem?_append_right (by rw [lnL_len]; omega), lnL_len, show (k + 1) * 6 + c - 6 = k * 6 + c by omega, cellsN_get l k c (by simpa using hk) hc];rfl
theorem cellsN_one : ∀ (l : List LnC) (u : Value), u ∈ cellsN l -> u.oneCell' = true
 | [], u, h => by simp [cellsN] at h
 | r :: l, u, h => by
   rw [cellsN, List.mem_append] at h
   rcases h with h | h
   ·simp only [lnL, List.mem_cons, List.not_mem_nil, or_false] at h
    rcases h with rfl | rfl | rfl | rfl | rfl | rfl <;> rfl
   ·exact cellsN_one l u h
theorem info_ln : (Tryz.prog.info? 52).map (fun i => (i.zero, i.size, i.bytes)) = some (some (.agg #[.int .i64 0, .string ⟨#[]⟩, .int .i64 0, .int .i64 0, .string ⟨#[]⟩, .slice none 0 0]), 6, 80) := by kernel_rfl
def GrowN (w : World) (B : Nat) (v : Value) (l : List LnC) : Prop := w.ownsRow B 52 6 v l.length (cellsN l)
theorem GrowN.nil (w : World) (B : Nat) : GrowN w B (.slice none 0 0) [] := World.ownsRow_nil _ _ _ _
theorem GrowN.alloc {w : World} {B : Nat} {v : Value} {l : List LnC} (h : GrowN w B v l) (o : Obj) : GrowN (w.alloc o) B v l := World.ownsRow.alloc h o
theorem GrowN.lt {w : World} {B : Nat} {v : Value} {l : List LnC} (h : GrowN w B v l) : ∀ k, v.ownBlock = some k -> B <= k /\ k < w.heap.size := World.ownsRow.lt h
theorem GrowN.put {w : World} {B : Nat} {v : Value} {l : List LnC} (h : GrowN w B v l) {a : Addr} (ha : a.block < B) (u : Value) : GrowN (w.setCell a u) B v l := ownsRow_setCell_below h ha u
theorem GrowN.kept {w w' : World} {B : Nat} {v : Value} {l : List LnC} {row : Option Nat} (h : GrowN w B v l) (hg : w.grownBy w' row) (hr : ∀ r, row = some r -> r < B) : GrowN w' B v l := by
 refine World.ownsRow.kept h hg ?_
 cases hv : v.ownBlock with
 | none => exact .inl rfl
 | some k =>
   refine .inr (fun e => ?_);have := hr k e.symm;have := (h.lt k hv).1;omega
theorem GrowN.slice {w : World} {B : Nat} {v : Value} {l : List LnC} (h : GrowN w B v l) : ∃ x c, v = .slice x l.length c := by
 rcases h.2 with ⟨h1, h2⟩ | ⟨g, c, cur, h1, _⟩
 ·rw [h2]; exact ⟨none, 0, h1⟩
 ·exact ⟨_, c, h1⟩
def LnP (w : World) (B : Nat) (x : Option Addr) (l : List Ln) : Prop := l.length = 0 \/ ∃ g, x = some ⟨g, 0, none⟩ /\ B <= g /\ (g < w.heap.size /\ ∀ i, w.frozen? ⟨g, i, none⟩ = false) /\ ∀ j, j < l.length -> ∃ (aj : Option Addr) (cj : Nat), LnIs w g (j * 6) (lnth l j) aj cj /\ (lnth l j).name.size <= maxLen /\ KidsP w (fun b => B <= b /\ b ≠ g) (lnth l j).ex aj
theorem LnP.came {w : World} {B : Nat} {x : Option Addr} {l : List Ln} (h : LnP w B x l) : CameL w x l := by
 rcases h with h | ⟨g, rfl, _, hg, h⟩
 ·exact .inl h
 ·refine .inr ⟨g, 0, rfl, hg.1, fun j hj => ?_⟩;obtain ⟨aj, cj, h1, h2, h3⟩ := h j hj;exact ⟨aj, cj, by rw [Nat.zero_add]; exact h1, h2, h3.kids⟩
def CameF (w : World) (B : Nat) (x : Option Addr) (l : List Ln) : Prop := ∀ W, (∀ b, B <= b -> b < w.heap.size -> W.heap[b]? = w.heap[b]?) -> w.heap.size <= W.heap.size -> LnP W B x l
theorem CameF.came {w : World} {B : Nat} {x : Option Addr} {l : List Ln} (h : CameF w B x l) : CameL w x l := (h w (fun _ _ _ => rfl) (Nat.le_refl _)).came
theorem CameF.to {w w' : World} {B B' : Nat} {x : Option Addr} {l : List Ln} (h : CameF w B x l) (hb : ∀ b, B <= b -> b < w.heap.size -> w'.heap[b]? = w.heap[b]?) (hs : w.heap.size <= w'.heap.size) (hB : B' <= B) : CameF w' B' x l :=
 fun W h1 h2 => by
  rcases h W (fun b hb1 hb2 => (h1 b (by omega) (by omega)).trans (hb b hb1 hb2)) (by omega) with q | ⟨g, q1, q2, q3, q4⟩
  ·exact .inl q
  ·refine .inr ⟨g, q1, by omega, q3, fun j hj => ?_⟩;obtain ⟨aj, cj, r1, r2, r3⟩ := q4 j hj;exact ⟨aj, cj, r1, r2, r3.mono fun b hb _ => ⟨by omega, hb.2⟩⟩
theorem GrowN.came {w : World} {B : Nat} {x : Option Addr} {c : Nat} {l : List LnC} (h : GrowN w B (.slice x l.length c) l) (hk : ∀ j, j < l.length -> KidsP w (fun b => B <= b /\ some b ≠ (Value.slice x l.length c).ownBlock) (lcth l j).l.ex (lcth l j).a) (hn : ∀ j, j < l.length -> (lcth l j).l.name.size <= maxLen) : CameF w B x (l.map LnC.l) := by
 intro W hW hWs;have hh := h
 rcases h.2 with ⟨h1, h2⟩ | ⟨g, c', cur, h1, h2, h3, _⟩
 ·exact .inl (by simp [h2])
 ·injection h1 with e1 e2 e3
  subst e1;have hg := GrowN.lt hh g rfl;have hWg := hW g hg.1 hg.2;refine .inr ⟨g, rfl, hg.1, ⟨by omega, fun i => (World.frozen?_of_block (a := ⟨g, i, none⟩) hWg).trans (by simp [World.frozen?, h3])⟩, fun j hj => ?_⟩;have hj' : j < l.length := by simpa using hj
  have hl : lnth (l.map LnC.l) j = (lcth l j).l := by
   unfold lnth lcth;rw [List.getD_eq_getElem?_getD, List.getD_eq_getElem?_getD, List.getElem?_map];simp [hj']
  rw [hl];have key : ∀ c, c < 6 -> ∀ u, (lnL (lcth l j).l (lcth l j).a (lcth l j).c)[c]? = some u -> W.cell? ⟨g, j * 6 + c, none⟩ = some u := fun c hc u hu => by
   have := World.ownsRow.cells hh (g := g) rfl (j * 6 + c) u ((cellsN_get l j c hj' hc).trans hu);rw [Addr.add_lit, Nat.zero_add] at this;exact (World.cell?_of_block (a := ⟨g, j * 6 + c, none⟩) hWg).trans this
  exact ⟨_, _, ⟨key 0 (by omega) _ rfl, key 1 (by omega) _ rfl, key 2 (by omega) _ rfl, key 3 (by omega) _ rfl, key 4 (by omega) _ rfl, key 5 (by omega) _ rfl⟩, hn j hj', (hk j hj').to (fun b hb hB => ⟨hW b hb.1 hB, hb.1, fun e => hb.2 (by rw [e]; rfl)⟩) hWs⟩
theorem step_app_ln {ops : Array Oper} {o : Oper} {a : Act} {K : Act -> World -> Prop} {Q : Exit -> Act -> World -> Prop} {E : Prop} (w : World) (hgd : o.guard = none) (s x : Operand)
 (ho : o.op = .call { callee := .builtin .append, args := #[s, x], argTypes := #[22, 22] })
 (B : Nat) (v : Value) (l : List LnC) (hs : a.eval s = v) (hown : GrowN w B v l) (b c : Nat) (r : LnC) (hx : a.eval x = .slice (some ⟨b, 0, none⟩) 1 c) (h0 : Bxs w b (lnL r.l r.a r.c))
 (hb : l.length <= 1000) (hB : B <= w.heap.size)
 (h : ∀ v' w', GrowN w' B v' (l ++ [r]) -> w.grownBy w' v.ownBlock -> (v'.ownBlock = v.ownBlock \/ v'.ownBlock = some w.heap.size) -> K (a.put o.dst v') w') :
 if Region.wanted o (yielded ops a.tmps) = true then Oper.wp Tryz.prog o a w K Q else E := by
 have hw : Region.wanted o (yielded ops a.tmps) = true := by simp [Region.wanted, hgd]
 rw [if_pos hw];obtain ⟨i0, hi, hz0, hz1, hz2⟩ := info_parts info_ln;have hnews : ∀ j u, (cellsN [r])[j]? = some u -> w.cell? ((⟨b, 0, none⟩ : Addr).add j) = some u := by
  intro j u hu;rw [Addr.add_lit, Nat.zero_add];have e : cellsN [r] = lnL r.l r.a r.c := by simp [cellsN]
  rw [e] at hu;exact (h0 j u hu).1
 obtain ⟨v', w', hr, h2, h3, _, h5⟩ := run_append_own_at (P := Tryz.prog) w B 22 o.type 52 i0 _ 6 80 Tryz.underlying22 hi hz0 hz1 hz2 rfl (by decide) v l.length (cellsN l) hown ⟨b, 0, none⟩ 1 c (cellsN [r]) (by rw [cellsN_length]; rfl) hnews (cellsN_one [r]) (by unfold maxLen; omega) (by omega) hB;unfold Oper.wp execOp;simp only [ho, resolve, invoke, builtin, Sem.run_bind, Sem.run_pure, Result.andThen_ok, List.map_toArray, List.map_cons, List.map_nil, hs, hx, hr];refine h v' w' ?_ h3 h5;unfold GrowN;rw [List.length_append, cellsN_append];exact h2
theorem rcatch_idle (p q : Addr) (w : World) :
 CallsD Tryz.prog 84 #[.pointer (some p), .pointer (some q)] .returning w fun e u' w' => e = .returned (.tuple #[]) /\ u' = .returning /\ w' = w := by
 refine callsD_of_wpS Tryz.func84 rfl fun c₀ cs hu => ?_
 apply wpS_seq
 apply wpS_region
 simp [wpOpsS, go_sem, recoverD, hu, Tryz.ntmps84, Exit.thenS]
 apply wpS_seq
 apply wpS_region
 simp [wpOpsS, go_sem, Exit.thenS, Array.replicate];refine wpS_cond (t := false) (by simp [Act.eval]) ?_;simp only [Bool.false_eq_true, if_false];refine wpS_of_wp (wp_skip ?_)
 cases c₀
 simp_all [bodyPostS, results, Tryz.results84]
theorem rassert_wrong (v : Value) (w : World) : (Instr.typeAssert (.iface 158 v) 20 158 false).run Tryz.prog w = .ok v w := by kernel_rfl
theorem rcatch_gone (p q : Nat) (e a : Int) (w : World) (v : Value) (hp : w.cell? ⟨p, 0, none⟩ = some v) (hz : w.frozen? ⟨p, 0, none⟩ = false) (h0 : w.cell? ⟨q, 0, none⟩ = some (.int .i64 0)) (h1 : w.cell? ⟨q, 1, none⟩ = some (.int .i64 0)) (z0 : w.frozen? ⟨q, 0, none⟩ = false) (z1 : w.frozen? ⟨q, 1, none⟩ = false) (hpq : p < q) :
 CallsD Tryz.prog 84 #[.pointer (some ⟨p, 0, none⟩), .pointer (some ⟨q, 0, none⟩)] (.panicking (goneR e a)) w fun x u' w' => x = .returned (.tuple #[]) /\ u' = .panicking [{ v := .iface 158 (.agg #[.int .i64 e, .int .i64 a]), recovered := true }] /\ w' = (((w.setCell ⟨p, 0, none⟩ (.slice none 0 0)).setCell ⟨q, 0, none⟩ (.int .i64 e)).setCell ⟨q, 1, none⟩ (.int .i64 a)).drew := by
 refine callsD_of_wpS Tryz.func84 rfl fun c₀ cs hu => ?_
 apply wpS_seq
 apply wpS_region
 simp [wpOpsS, go_sem, recoverD, hu, goneR, Tryz.ntmps84, Exit.thenS]
 apply wpS_seq
 apply wpS_region
 simp [wpOpsS, go_sem, Exit.thenS, Array.replicate];refine wpS_cond (t := true) (by simp [Act.eval]) ?_;simp only [if_true];refine wpS_of_wp ?_;have has := rassert_wrong (.agg #[.int .i64 e, .int .i64 a])
 go_region
 simp [bodyPostS, results, Tryz.results84]
theorem lkT_bd {T : List Tk} {k : Nat} (h : lkT T k ≠ 0) : 1 <= lkT T k /\ lkT T k <= 4 := by
 unfold lkT at h ⊢
 (repeat' split) <;> simp_all
theorem lnT_ok {T : List Tk} (hT : TokOk T) {k : Nat} {l : Ln} {k' : Nat} (hk : k < T.length) (h : lnT T k = some (l, k')) : (1 <= l.kind /\ l.kind <= 4) /\ NameP l.name /\ l.ex.err = 0 /\ l.ex.depth <= 20 /\ l.ex.parts <= k' - k /\ k < k' /\ k' < T.length := by
 unfold lnT at h
 split at h
 ·cases h
 ·rename_i h0
  obtain ⟨s, h1, h⟩ := Option.bind_eq_some_iff.1 h;have hk1 : k + 1 < T.length := by
   by_cases e : k = T.length - 1
   ·exact absurd (by
     have hE := hT.endT;rw [<- e] at hE;unfold lkT isT;rw [hE];rfl) h0
   ·omega
  have t1 := namT_bd hT hk1 h1;have hk2 := hT.kind hk1 t1.1 (by omega)
  split at h
  ·rename_i c2
   have hk3 := hT.text hk2 c2 (by simp);obtain ⟨⟨x, k1⟩, h2, h⟩ := Option.bind_eq_some_iff.1 h;have i1 := prs_ok hT _ _ _ _ _ rfl hk3 h2
   dsimp only at h
   split at h
   ·rename_i c3
    have hk4 := hT.text i1.lt c3 (by simp)
    split at h
    ·cases h
    ·rename_i c4
     injection h with h
     injection h with e1 e2
     subst e1 e2;have := i1.low;have p1 := i1.parts;simp only [lowL, baseP] at *;exact ⟨lkT_bd h0, t1.2, i1.err, by omega, by omega, by omega, hk4⟩
   ·cases h
  ·cases h
structure Pj (w wr : World) (pb g : Nat) (T : List Tk) (v : Value) (L : List LnC) (kj : Nat) : Prop where
 pr : PrA wr pb g T kj
 en : PEnv wr pb
 box : PBox wr w.heap.size v
 own : GrowN wr (pb + 1) v L
 kids : ∀ j, j < L.length -> KidsP wr (fun b => pb < b /\ some b ≠ v.ownBlock) (lcth L j).l.ex (lcth L j).a
 bel : Below w.heap.size w wr
 nam : ∀ j, j < L.length -> (lcth L j).l.name.size <= maxLen
 gl : g < w.heap.size
 ge : 1 < w.heap.size /\ 3 < w.heap.size
theorem PBox.to {w w' : World} {p : Nat} {v : Value} (h : PBox w p v) (h0 : w'.heap[p]? = w.heap[p]?) (h1 : w'.heap[p + 1]? = w.heap[p + 1]?) : PBox w' p v := by
 obtain ⟨⟨a0, a1⟩, ⟨b0, b1⟩, ⟨c0, c1⟩⟩ := h;exact ⟨⟨(World.cell?_of_block (a := ⟨p, 0, none⟩) h0).trans a0, (World.frozen?_of_block (a := ⟨p, 0, none⟩) h0).trans a1⟩, ⟨(World.cell?_of_block (a := ⟨p + 1, 0, none⟩) h1).trans b0, (World.frozen?_of_block (a := ⟨p + 1, 0, none⟩) h1).trans b1⟩, ⟨(World.cell?_of_block (a := ⟨p + 1, 1, none⟩) h1).trans c0, (World.frozen?_of_block (a := ⟨p + 1, 1, none⟩) h1).trans c1⟩⟩
theorem Pj.step {w wr wj : World} {pb g : Nat} {T : List Tk} {v : Value} {L : List LnC} {kj k' : Nat} (h : Pj w wr pb g T v L kj) (hs : St wr wj pb g T k') (hp : pb = w.heap.size + 2) : Pj w wj pb g T v L k' := by
 have hsz : w.heap.size + 2 < wr.heap.size := by have := h.pr.lt; omega
 have hblk : ∀ b, b < wr.heap.size -> b ≠ pb -> wj.heap[b]? = wr.heap[b]? := fun b hb hn => hs.gr.block b hb fun e => hn (by injection e)
 refine ⟨hs.pr, h.en.st hs, h.box.to (hblk _ (by omega) (by omega)) (hblk _ (by omega) (by omega)), h.own.kept hs.gr fun r e => by injection e with e; omega, fun j hj => (h.kids j hj).gr hs.gr fun b hb => hb.1, ?_, h.nam, h.gl, h.ge⟩;exact h.bel.trans ⟨hs.gr.os, hs.gr.tape, hs.gr.output, hs.gr.size, fun b hb => hblk b (by omega) (by omega)⟩
theorem Pj.below {w wr wj : World} {pb g : Nat} {T : List Tk} {v : Value} {L : List LnC} {kj : Nat} (h : Pj w wr pb g T v L kj) (hb : Below wr.heap.size wr wj) (hp : pb = w.heap.size + 2) : Pj w wj pb g T v L kj :=
 h.step ((St.refl h.pr).below hb) hp
theorem lcth_lt {L M : List LnC} {j : Nat} (h : j < L.length) : lcth (L ++ M) j = lcth L j := by
 unfold lcth;rw [List.getD_eq_getElem?_getD, List.getD_eq_getElem?_getD, List.getElem?_append_left h]
theorem lcth_at {L : List LnC} {r : LnC} : lcth (L ++ [r]) L.length = r := by
 unfold lcth;rw [List.getD_eq_getElem?_getD, List.getElem?_append_right (Nat.le_refl _)];simp
theorem Pj.more {w w3 w4 : World} {pb g : Nat} {T : List Tk} {v v' : Value} {L : List LnC} {kj : Nat} {r : LnC} {o : Obj} (h : Pj w w3 pb g T v L kj) (hp : pb = w.heap.size + 2)
 (hk : KidsP w3 (fun b => pb < b /\ some b ≠ v.ownBlock) r.l.ex r.a) (hn : r.l.name.size <= maxLen)
 (hg : GrowN w4 (pb + 1) v' (L ++ [r])) (hgr : (w3.alloc o).grownBy w4 v.ownBlock) (hv : v'.ownBlock = v.ownBlock \/ v'.ownBlock = some (w3.alloc o).heap.size) :
 Pj w (w4.setCell ⟨w.heap.size, 0, none⟩ v') pb g T v' (L ++ [r]) kj := by
 have hsz : w.heap.size + 2 < w3.heap.size := by have := h.pr.lt; omega
 have hgl := h.gl;have hge := h.ge;have hown : ∀ b, b <= pb -> some b ≠ v.ownBlock := fun b hb e => by have := (h.own.lt b e.symm).1; omega
 have hsa : (w3.alloc o).heap.size = w3.heap.size + 1 := by simp
 have b4 : ∀ b, b < w3.heap.size -> some b ≠ v.ownBlock -> w4.heap[b]? = w3.heap[b]? := fun b hb hn => (hgr.block b (by omega) hn).trans ((kbelow_box w3 o).block b hb)
 have b5 : ∀ b, b < w3.heap.size -> some b ≠ v.ownBlock -> b ≠ w.heap.size -> (w4.setCell ⟨w.heap.size, 0, none⟩ v').heap[b]? = w3.heap[b]? := fun b hb hn hw => (Below.heap_setCell w4 ⟨w.heap.size, 0, none⟩ _ b hw).trans (b4 b hb hn)
 have hs4 : w3.heap.size <= (w4.setCell ⟨w.heap.size, 0, none⟩ v').heap.size := by have := hgr.size; simp; omega
 have kid : ∀ {x : Ex} {a : Option Addr}, KidsP w3 (fun b => pb < b /\ some b ≠ v.ownBlock) x a -> KidsP (w4.setCell ⟨w.heap.size, 0, none⟩ v') (fun b => pb < b /\ some b ≠ v'.ownBlock) x a := fun hx => hx.to (fun b hb hB => ⟨b5 b hB hb.2 (by omega), hb.1, fun e => by
  rcases hv with hv | hv
  ·rw [hv] at e; exact hb.2 e
  ·rw [hv, hsa] at e;injection e with e
   omega⟩) hs4
 have hbel : Below w.heap.size w (w4.setCell ⟨w.heap.size, 0, none⟩ v') := by
  refine ((h.bel.alloc (by omega) o).trans ?_).setCell (by simp) _;exact ⟨hgr.os, hgr.tape, hgr.output, hgr.size, fun b hb => hgr.block b (by omega) (hown b (by omega))⟩
 refine ⟨?_, h.en.to (b5 _ (by omega) (hown _ (by omega)) (by omega)) (b5 _ (by omega) (hown _ (by omega)) (by omega)), ?_, hg.put (by simp; omega) _, fun j hj => ?_, hbel, fun j hj => ?_, hgl, hge⟩
 ·obtain ⟨⟨c, q⟩, hk⟩ := h.pr;exact ⟨⟨c, q.to (b5 _ (by omega) (hown _ (Nat.le_refl _)) (by omega)) (b5 _ (by omega) (hown _ (by omega)) (by omega)) hs4⟩, hk⟩
 ·exact (h.box.to (b4 _ (by omega) (hown _ (by omega))) (b4 _ (by omega) (hown _ (by omega)))).put v'
 ·by_cases e : j < L.length
  ·rw [lcth_lt e]; exact kid (h.kids j e)
  ·have hj' : j = L.length := by simp at hj; omega
   subst hj';rw [lcth_at]; exact kid hk
 ·by_cases e : j < L.length
  ·rw [lcth_lt e]; exact h.nam j e
  ·have hj' : j = L.length := by simp at hj; omega
   subst hj';rw [lcth_at]; exact hn
def ParR (w' : World) (B : Nat) (T : List Tk) (e : Ending) : Prop :=
 (∃ l x n c, linesT T = some l /\ e = .returned (.tuple #[.slice x n c, .agg #[.int .i64 0, .int .i64 0]]) /\ CameF w' B x l /\ l.length = n) ∨
 (∃ er at' : Int, er ≠ 0 /\ linesT T = none /\ e = .returned (.tuple #[.slice none 0 0, .agg #[.int .i64 er, .int .i64 at']]))
theorem PrAt.start {w w' : World} {g c : Nat} {T : List Tk} (hg : g < w.heap.size) (hc : T.length <= c) (ht : ∀ j, j < T.length -> TkIs w g (j * 5) (tkth T j)) {pb : Nat} (hb : Below w.heap.size w w') (hp : w.heap.size <= pb) (hpl : pb < w'.heap.size) (hbox : w'.cell? ⟨pb, 0, none⟩ = some (.slice (some ⟨g, 0, none⟩) T.length c)) (hf : w'.frozen? ⟨pb, 0, none⟩ = false) (h0 : 0 < T.length) : PrA w' pb g T 0 :=
 ⟨⟨c, hpl, Nat.lt_of_lt_of_le hg hb.size, by omega, by omega, by rw [Nat.zero_mul]; exact hbox, hf, fun j hj => (ht j hj).below hb hg⟩, h0⟩
theorem lnsT_eq (T : List Tk) (f c k : Nat) : lnsT T (f + 1) c k = if T.length <= k + 1 then some [] else if c = 40 then none else (lnT T k).bind fun a => (lnsT T f (c + 1) a.2).bind fun l => some (a.1 :: l) := by rw [lnsT]
theorem leaves_tmps {P : Program} {fn : Func} {R : Ending -> World -> Prop} {t t' : Array Value} (h : ∀ w, (results fn t').run P w = (results fn t).run P w) : ∀ (ds : List Deferred) (u : FrameMode) (w : World), Leaves P fn t R ds u w -> Leaves P fn t' R ds u w := by
 intro ds
 induction ds with
 | nil =>
   intro u w hl
   cases u with
   | returning => obtain ⟨v, h1, h2⟩ := hl; exact ⟨v, by rw [h]; exact h1, h2⟩
   | panicking chain => exact hl
   | run => exact hl
 | cons d ds ih =>
   intro u w hl;obtain ⟨h0, fv, cap, f, args, h1, h2, h3⟩ := hl;refine ⟨h0, fv, cap, f, args, h1, h2, h3.mono ?_⟩;intro e u' w' he
   cases e with
   | returned v => exact ih _ _ he
   | panicked chain => exact ih _ _ he
   | outgrown => exact he
theorem parse_res (a : Act) (i : Nat) (h2 : i ≠ 2) (h3 : i ≠ 3) (v : Value) (w : World) : (results Tryz.f43 a.tmps).run Tryz.prog w = (results Tryz.f43 (a.put (some i) v).tmps).run Tryz.prog w := by
 have e2 : (a.put (some i) v).tmps.getD 2 undef = a.tmps.getD 2 undef := by simp [Act.put, Array.getD_eq_getD_getElem?, Array.getElem?_setIfInBounds, h2]
 have e3 : (a.put (some i) v).tmps.getD 3 undef = a.tmps.getD 3 undef := by simp [Act.put, Array.getD_eq_getD_getElem?, Array.getElem?_setIfInBounds, h3]
 generalize (a.put (some i) v).tmps = t' at e2 e3 ⊢;simp only [results, Tryz.results43, List.mapM_toArray, List.mapM_cons, List.mapM_nil, e2, e3]
theorem rest_none {c : Nat} {o : Option (Ln × Nat)} {F : Ln × Nat -> Option (List Ln)} {G : List Ln -> Option (List Ln)} (h : (if c = 40 then none else o) = none) : (if c = 40 then none else o.bind F).bind G = none := by
 by_cases e : c = 40
 ·rw [if_pos e]; rfl
 ·rw [if_neg e] at h ⊢; rw [h]; rfl
theorem rest_some {c : Nat} {o : Option (Ln × Nat)} {x : Ln × Nat} (h : (if c = 40 then none else o) = some x) : c ≠ 40 /\ o = some x := by
 by_cases e : c = 40
 ·rw [if_pos e] at h; cases h
 ·rw [if_neg e] at h; exact ⟨e, h⟩
theorem Pj.lost {w wr w3 : World} {pb g : Nat} {T : List Tk} {v : Value} {L : List LnC} {kj : Nat} (h : Pj w wr pb g T v L kj) (hp : pb = w.heap.size + 2) (hg : wr.grownBy w3 (some pb)) : PBox w3 w.heap.size v /\ Below w.heap.size w w3 := by
 have hsz : w.heap.size + 2 < wr.heap.size := by have := h.pr.lt; omega
 have hblk : ∀ b, b < wr.heap.size -> b ≠ pb -> w3.heap[b]? = wr.heap[b]? := fun b hb hn => hg.block b hb fun e => hn (by injection e)
 exact ⟨h.box.to (hblk _ (by omega) (by omega)) (hblk _ (by omega) (by omega)), h.bel.trans ⟨hg.os, hg.tape, hg.output, hg.size, fun b hb => hblk b (by omega) (by omega)⟩⟩
theorem PBox.laid {w : World} {p : Nat} {v : Value} (h : PBox w p v) (u : Value) (e a : Int) : let W := ((w.setCell ⟨p, 0, none⟩ u).setCell ⟨p + 1, 0, none⟩ (.int .i64 e)).setCell ⟨p + 1, 1, none⟩ (.int .i64 a); W.cell? ⟨p, 0, none⟩ = some u /\ W.cell? ⟨p + 1, 0, none⟩ = some (.int .i64 e) /\ W.cell? ⟨p + 1, 1, none⟩ = some (.int .i64 a) := by
 obtain ⟨⟨x0, -⟩, ⟨y0, -⟩, ⟨z0, -⟩⟩ := h;refine ⟨?_, ?_, ?_⟩
 ·rw [World.cell?_setCell_other (h := fun e => by injection e; omega), World.cell?_setCell_other (h := fun e => by injection e; omega)];exact World.cell?_setCell_same _ _ _ x0
 ·rw [World.cell?_setCell_other (h := fun e => by injection e; omega)];exact World.cell?_setCell_same _ _ _ ((World.cell?_setCell_other _ _ _ _ (fun e => by injection e; omega)).trans y0)
 ·exact World.cell?_setCell_same _ _ _ ((World.cell?_setCell_other _ _ _ _ (fun e => by injection e; omega)).trans ((World.cell?_setCell_other _ _ _ _ (fun e => by injection e; omega)).trans z0))
theorem parse_any (g c : Nat) (T : List Tk) (hT : TokOk T) (w : World) (hg : g < w.heap.size) (hc : T.length <= c) (ht : ∀ j, j < T.length -> TkIs w g (j * 5) (tkth T j)) (hlw : LWs w) (hts : TSs w) :
 Calls Tryz.prog 43 #[.slice (some ⟨g, 0, none⟩) T.length c] w fun e w' => ParR w' w.heap.size T e /\ Below w.heap.size w w' := by
 have HB0 := Hd (((Below.refl w.heap.size w).alloc (Nat.le_refl _) (.cells #[.slice none 0 0] 22)).alloc (by simp) (.cells #[.int .i64 0, .int .i64 0] 42));obtain ⟨W, hW⟩ : ∃ W, (((w.alloc (.cells #[.slice none 0 0] 22)).alloc (.cells #[.int .i64 0, .int .i64 0] 42)).alloc (.cells #[.slice (some ⟨g, 0, none⟩) T.length c] 161)) = W := ⟨_, rfl⟩;have HB1 : Hid (Below w.heap.size w W) := by rw [<- hW]; exact HB0.out.alloc (by simp; omega) _
 have hgl : 1 < w.heap.size /\ 3 < w.heap.size := ⟨blt_of_cell (hlw 0 (by omega)), blt_of_cell (hts 0 (by omega))⟩;have hbx : W.cell? ⟨w.heap.size + 1 + 1, 0, none⟩ = some (.slice (some ⟨g, 0, none⟩) T.length c) /\ W.frozen? ⟨w.heap.size + 1 + 1, 0, none⟩ = false := by
  have h1 := Bxs.made ((w.alloc (.cells #[.slice none 0 0] 22)).alloc (.cells #[.int .i64 0, .int .i64 0] 42)) [.slice (some ⟨g, 0, none⟩) T.length c] 161;have h2 : ((w.alloc (.cells #[.slice none 0 0] 22)).alloc (.cells #[.int .i64 0, .int .i64 0] 42)).heap.size = w.heap.size + 1 + 1 := by simp
  rw [h2] at h1;rw [<- hW];exact h1 0 _ rfl
 have HJ0 : Hid (Pj w W (w.heap.size + 1 + 1) g T (.slice none 0 0) [] 0) := by
  refine ⟨PrAt.start hg hc ht HB1.out (by omega) (by rw [<- hW]; simp) hbx.1 hbx.2 hT.pos, ⟨fun j hj => (HB1.out.cell (p := ⟨1, j, none⟩) hgl.1).trans (hlw j hj), fun j hj => (HB1.out.cell (p := ⟨3, j, none⟩) hgl.2).trans (hts j hj), by omega, by omega⟩, ?_, GrowN.nil _ _, fun j hj => absurd hj (by simp), HB1.out, fun j hj => absurd hj (by simp), hg, hgl⟩;rw [<- hW];exact (PBox.made w 22 42).keep (kbelow_box _ _) (by simp)
 have HT := Hd hT;have HWE := Hd hW;have hmf : ∀ (fn : Fn) (first cap : Array Value) (w : World), (Instr.makeFunc fn first cap).run Tryz.prog w = .ok (.func fn first cap) w := fun _ _ _ _ => rfl
 have HR0 : Hid ((lnsT T (T.length + 1) 0 0).bind (fun l => some (([] : List LnC).map LnC.l ++ l)) = linesT T) := by
  unfold Hid linesT
  cases lnsT T (T.length + 1) 0 0 <;> rfl
 clear hT hg hc ht hlw hts hgl hW hbx;obtain ⟨R, hR⟩ : ∃ R, linesT T = R := ⟨_, rfl⟩;rw [hR] at HR0;have HRT := Hd hR;clear hR
 go_enter_defers Tryz.func43, Tryz.ntmps43
 go_wp2_with fail
 rw [HWE.out]
 go_loopw [9] (fun _ wr => ∃ (v : Value) (L : List LnC) (kj fj : Nat), Pj w wr (w.heap.size + 1 + 1) g T v L kj /\ (lnsT T fj L.length kj).bind (fun l => some (L.map LnC.l ++ l)) = R /\ T.length - kj + 1 <= fj /\ L.length <= 40) (fun _ wr => leftOf wr (w.heap.size + 1 + 1))
 case atStart => exact ⟨_, [], 0, T.length + 1, HJ0.out, HR0.out, by omega, by simp⟩
 case round =>
  obtain ⟨v, L, kj, fj, hJ, hRJ, hf, h40⟩ := hrel;obtain ⟨fq, rfl⟩ : ∃ fq, fj = fq + 1 := ⟨fj - 1, by omega⟩;rw [lnsT_eq] at hRJ;obtain ⟨x, cv, rfl⟩ := hJ.own.slice;have HLF := Hd hJ.pr.left;have hkj := hJ.pr.2;obtain ⟨⟨y0, y1⟩, ⟨y2, y3⟩, ⟨y4, y5⟩⟩ := hJ.box;have HJ := Hd hJ;have HRJ := Hd hRJ;obtain ⟨⟨cp, hpa⟩, _⟩ := hJ.pr;have hbx := hpa.box;obtain ⟨m, hm⟩ : ∃ m, T.length - kj = m := ⟨_, rfl⟩;rw [hm] at hbx;have hpz : w.heap.size + 1 + 1 < wr.heap.size := hpa.lt;have HM := Hd hm;clear hJ hRJ hpa
  by_cases hlt : 1 < m
  ·have hlt' : (1 : Int) < (m : Int) := by omega
   have HRK : Hid ((if L.length = 40 then none else (lnT T kj).bind fun a => (lnsT T fq (L.length + 1) a.2).bind fun l => some (a.1 :: l)).bind (fun l => some (L.map LnC.l ++ l)) = R) := by
    have := HRJ.out;rw [if_neg (by omega)] at this;exact this
   clear HRJ hm;have HJD := Hd (HJ.out.below ((Below.refl _ _).drew) rfl);have HLN := Hd (line_any HT.out kj L.length wr.drew HJD.out.en HJD.out.pr);go_wp2_with fail
   refine wp_region_held_drew (S := fun _ => True) (by kernel_rfl) trivial (fun hHeld => ?_);refine wpAnyH_take (i := 1) (oi := _) (v := .pointer (some ⟨w.heap.size + 1 + 1, 0, none⟩)) rfl (by kernel_rfl) (by kernel_rfl) (by kernel_rfl) (fun c a w h => leaves_tmps (parse_res a 16 (by decide) (by decide) _) _ _ _ h) (Or.inl ⟨by rfl, fun w hSw => ?_⟩) (by assumption) ?_
   ·(go_simp; try with_reducible rfl)
   try simp only [Act.put, layS]
   refine rd2 0 2 rfl (fun K hK => ?_) rfl (fun K hK => ?_)
   ·go_simp;refine hK.out _ _ trivial (fun hHeld => ?_);clear hK K
    try simp only [Act.put, layS]
    refine rd1 2 rfl (fun K hK => ?_);go_simp;refine hK.out _ _ trivial (fun hHeld => ?_);clear hK K
    try simp only [Act.put, layS]
    refine wpAnyH_take (i := 3) (oi := _) (v := .int .i64 (L.length : Int)) rfl (by kernel_rfl) (by kernel_rfl) (by kernel_rfl) (fun c a w h => leaves_tmps (parse_res a 18 (by decide) (by decide) _) _ _ _ h) (Or.inl ⟨by rfl, fun w hSw => ?_⟩) (by assumption) ?_
    ·(go_simp; try with_reducible rfl)
    try simp only [Act.put, layS]
    refine rd1 4 rfl (fun K hK => ?_);go_simp;refine HLN.out.mono ?_;intro e w3 hp
    rcases hp.cases with ⟨hn, ⟨er, at', h0, rfl⟩, hgv⟩ | ⟨l, k', a, c3, hn, rfl, hk, hs⟩
    ·have hR0 : R = none := by rw [<- HRK.out]; exact rest_none hn
     obtain ⟨hb3, hbb⟩ := HJD.out.lost rfl hgv;obtain ⟨⟨x0, x1⟩, ⟨u0, u1⟩, ⟨v0, v1⟩⟩ := hb3;refine leaves_cons (f := 84) (args := #[.pointer (some ⟨w.heap.size, 0, none⟩), .pointer (some ⟨w.heap.size + 1, 0, none⟩)]) (by simp) (by simp [go_sem]) ?_;refine (rcatch_gone w.heap.size (w.heap.size + 1) er at' w3 _ x0 x1 u0 v0 u1 v1 (by omega)).mono ?_;rintro e1 u' w'' ⟨rfl, rfl, rfl⟩;obtain ⟨e0, e1, e2⟩ := (HJD.out.lost rfl hgv).1.laid (.slice none 0 0) er at';simp [Leaves, settle, results, Tryz.results43, go_sem, e0, e1, e2];exact ⟨.inr ⟨er, at', h0, HRT.out.trans hR0, rfl⟩, (((hbb.setCell (by simp) _).setCell (by simp) _).setCell (by simp) _).drew⟩
    have HRS := Hd (rest_some hn);have HJ3 := Hd (HJD.out.step hs rfl);have HKL : Hid (KidsP w3 (fun b => w.heap.size + 1 + 1 < b /\ some b ≠ (Value.slice x L.length cv).ownBlock) l.ex a) := hk.mono fun b hb _ => ⟨by have h1 : wr.heap.size <= b := hb; omega, fun e => by have h1 : wr.heap.size <= b := hb; have := (HJ.out.own.lt b e.symm).2; omega⟩
    have HNM : Hid (l.name.size <= maxLen) := by have := (lnT_ok HT.out hkj (rest_some hn).2).2.1.2.1; unfold Hid maxLen; omega
    have HGA := Hd (HJ3.out.own.alloc (.cells #[.int .i64 l.kind, .string l.name, .int .i64 l.ex.k, .int .i64 l.ex.n, .string l.ex.s, .slice a l.ex.m c3] 52));have HSRC := Hd (Bxs.made w3 (lnL l a c3) 52);have HZA : Hid (w.heap.size + 1 + 1 + 1 <= (w3.alloc (.cells #[.int .i64 l.kind, .string l.name, .int .i64 l.ex.k, .int .i64 l.ex.n, .string l.ex.s, .slice a l.ex.m c3] 52)).heap.size) := by have := HJ3.out.pr.lt; unfold Hid; simp; omega
    obtain ⟨⟨s0, s1⟩, -, -⟩ := HJ3.out.box;have hw3 : w.heap.size < w3.heap.size := by have := HJ3.out.pr.lt; omega
    clear hp hn hk hs;unfold lnV
    try go_wp2_with fail
    refine hK.out _ _ trivial (fun hHeld => ?_);clear hK K
    try simp only [Act.put, layS]
    refine rd1 5 rfl (fun K hK => ?_);go_simp;refine hK.out _ _ trivial (fun hHeld => ?_);clear hK K
    try simp only [Act.put, layS]
    refine rd1 6 rfl (fun K hK => ?_);refine step_app_ln _ rfl (.tmp 15) (.tmp 20) rfl (w.heap.size + 1 + 1 + 1) (.slice x L.length cv) L (by simp [Act.eval]) HGA.out w3.heap.size 1 ⟨l, a, c3⟩ (by simp [Act.eval]) HSRC.out (by omega) HZA.out ?_;intro v9 w9 hg9 hr9 hv9;obtain ⟨x9, c9, rfl⟩ := hg9.slice;have HMO := Hd (HJ3.out.more rfl HKL.out HNM.out hg9 hr9 hv9);have hq0 : w9.heap[w.heap.size]? = w3.heap[w.heap.size]? := (hr9.block w.heap.size (Nat.lt_of_lt_of_le hw3 (kbelow_box _ _).size) fun e => by have := (HJ3.out.own.lt _ e.symm).1; omega).trans ((kbelow_box _ _).block _ hw3);have q0 := (World.cell?_of_block (a := ⟨w.heap.size, 0, none⟩) hq0).trans s0;have q1 := (World.frozen?_of_block (a := ⟨w.heap.size, 0, none⟩) hq0).trans s1;clear hg9 hr9 hv9 hq0;refine hK.out _ _ trivial (fun hHeld => ?_);clear hK K
    try simp only [Act.put, layS]
    refine rd1 7 rfl (fun K hK => ?_);go_simp;refine hK.out _ _ trivial (fun hHeld => ?_);clear hK K
    try simp only [Act.put, layS]
    refine wpAnyH_done (by kernel_rfl) ?_ _;have hlen : (L ++ [(⟨l, a, c3⟩ : LnC)]).length = L.length + 1 := by simp
    rw [hlen] at HMO;have hok := lnT_ok HT.out hkj HRS.out.2;have HRN : Hid ((lnsT T fq (L ++ [(⟨l, a, c3⟩ : LnC)]).length k').bind (fun q => some ((L ++ [(⟨l, a, c3⟩ : LnC)]).map LnC.l ++ q)) = R) := by
     unfold Hid;rw [<- HRK.out, if_neg HRS.out.1, HRS.out.2, Option.bind_some, hlen]
     dsimp only
     cases lnsT T fq (L.length + 1) k' <;> simp
    have HKB := Hd (And.intro hok.2.2.2.2.2.1 hok.2.2.2.2.2.2);have h41 := HRS.out.1;clear hok;go_wp2_with fail
    go_roundw
    case rel => exact ⟨_, _, k', fq, HMO.out, HRN.out, by have := HKB.out; omega, by rw [hlen]; omega⟩
    case measure =>
     have hL := HMO.out.pr.left;have hk2 := HKB.out;rw [HLF.out];refine Nat.lt_of_le_of_lt (Nat.le_of_eq hL) (by omega)
   ·go_simp;refine hK.out _ _ trivial (fun hHeld => ?_);clear hK K
    try simp only [Act.put, layS]
    refine wpAnyH_take (i := 3) (oi := _) (v := .int .i64 (L.length : Int)) rfl (by kernel_rfl) (by kernel_rfl) (by kernel_rfl) (fun c a w h => leaves_tmps (parse_res a 18 (by decide) (by decide) _) _ _ _ h) (Or.inl ⟨by rfl, fun w hSw => ?_⟩) (by assumption) ?_
    ·(go_simp; try with_reducible rfl)
    try simp only [Act.put, layS]
    refine rd2 0 4 rfl (fun K hK => ?_) rfl (fun K hK => ?_)
    ·go_simp;refine hK.out _ _ trivial (fun hHeld => ?_);clear hK K
     try simp only [Act.put, layS]
     refine rd1 4 rfl (fun K hK => ?_);go_simp;refine HLN.out.mono ?_;intro e w3 hp
     rcases hp.cases with ⟨hn, ⟨er, at', h0, rfl⟩, hgv⟩ | ⟨l, k', a, c3, hn, rfl, hk, hs⟩
     ·have hR0 : R = none := by rw [<- HRK.out]; exact rest_none hn
      obtain ⟨hb3, hbb⟩ := HJD.out.lost rfl hgv;obtain ⟨⟨x0, x1⟩, ⟨u0, u1⟩, ⟨v0, v1⟩⟩ := hb3;refine leaves_cons (f := 84) (args := #[.pointer (some ⟨w.heap.size, 0, none⟩), .pointer (some ⟨w.heap.size + 1, 0, none⟩)]) (by simp) (by simp [go_sem]) ?_;refine (rcatch_gone w.heap.size (w.heap.size + 1) er at' w3 _ x0 x1 u0 v0 u1 v1 (by omega)).mono ?_;rintro e1 u' w'' ⟨rfl, rfl, rfl⟩;obtain ⟨e0, e1, e2⟩ := (HJD.out.lost rfl hgv).1.laid (.slice none 0 0) er at';simp [Leaves, settle, results, Tryz.results43, go_sem, e0, e1, e2];exact ⟨.inr ⟨er, at', h0, HRT.out.trans hR0, rfl⟩, (((hbb.setCell (by simp) _).setCell (by simp) _).setCell (by simp) _).drew⟩
     have HRS := Hd (rest_some hn);have HJ3 := Hd (HJD.out.step hs rfl);have HKL : Hid (KidsP w3 (fun b => w.heap.size + 1 + 1 < b /\ some b ≠ (Value.slice x L.length cv).ownBlock) l.ex a) := hk.mono fun b hb _ => ⟨by have h1 : wr.heap.size <= b := hb; omega, fun e => by have h1 : wr.heap.size <= b := hb; have := (HJ.out.own.lt b e.symm).2; omega⟩
     have HNM : Hid (l.name.size <= maxLen) := by have := (lnT_ok HT.out hkj (rest_some hn).2).2.1.2.1; unfold Hid maxLen; omega
     have HGA := Hd (HJ3.out.own.alloc (.cells #[.int .i64 l.kind, .string l.name, .int .i64 l.ex.k, .int .i64 l.ex.n, .string l.ex.s, .slice a l.ex.m c3] 52));have HSRC := Hd (Bxs.made w3 (lnL l a c3) 52);have HZA : Hid (w.heap.size + 1 + 1 + 1 <= (w3.alloc (.cells #[.int .i64 l.kind, .string l.name, .int .i64 l.ex.k, .int .i64 l.ex.n, .string l.ex.s, .slice a l.ex.m c3] 52)).heap.size) := by have := HJ3.out.pr.lt; unfold Hid; simp; omega
     obtain ⟨⟨s0, s1⟩, -, -⟩ := HJ3.out.box;have hw3 : w.heap.size < w3.heap.size := by have := HJ3.out.pr.lt; omega
     clear hp hn hk hs;unfold lnV
     try go_wp2_with fail
     refine hK.out _ _ trivial (fun hHeld => ?_);clear hK K
     try simp only [Act.put, layS]
     refine rd1 5 rfl (fun K hK => ?_);go_simp;refine hK.out _ _ trivial (fun hHeld => ?_);clear hK K
     try simp only [Act.put, layS]
     refine rd1 6 rfl (fun K hK => ?_);refine step_app_ln _ rfl (.tmp 15) (.tmp 20) rfl (w.heap.size + 1 + 1 + 1) (.slice x L.length cv) L (by simp [Act.eval]) HGA.out w3.heap.size 1 ⟨l, a, c3⟩ (by simp [Act.eval]) HSRC.out (by omega) HZA.out ?_;intro v9 w9 hg9 hr9 hv9;obtain ⟨x9, c9, rfl⟩ := hg9.slice;have HMO := Hd (HJ3.out.more rfl HKL.out HNM.out hg9 hr9 hv9);have hq0 : w9.heap[w.heap.size]? = w3.heap[w.heap.size]? := (hr9.block w.heap.size (Nat.lt_of_lt_of_le hw3 (kbelow_box _ _).size) fun e => by have := (HJ3.out.own.lt _ e.symm).1; omega).trans ((kbelow_box _ _).block _ hw3);have q0 := (World.cell?_of_block (a := ⟨w.heap.size, 0, none⟩) hq0).trans s0;have q1 := (World.frozen?_of_block (a := ⟨w.heap.size, 0, none⟩) hq0).trans s1;clear hg9 hr9 hv9 hq0;refine hK.out _ _ trivial (fun hHeld => ?_);clear hK K
     try simp only [Act.put, layS]
     refine rd1 7 rfl (fun K hK => ?_);go_simp;refine hK.out _ _ trivial (fun hHeld => ?_);clear hK K
     try simp only [Act.put, layS]
     refine wpAnyH_done (by kernel_rfl) ?_ _;have hlen : (L ++ [(⟨l, a, c3⟩ : LnC)]).length = L.length + 1 := by simp
     rw [hlen] at HMO;have hok := lnT_ok HT.out hkj HRS.out.2;have HRN : Hid ((lnsT T fq (L ++ [(⟨l, a, c3⟩ : LnC)]).length k').bind (fun q => some ((L ++ [(⟨l, a, c3⟩ : LnC)]).map LnC.l ++ q)) = R) := by
      unfold Hid;rw [<- HRK.out, if_neg HRS.out.1, HRS.out.2, Option.bind_some, hlen]
      dsimp only
      cases lnsT T fq (L.length + 1) k' <;> simp
     have HKB := Hd (And.intro hok.2.2.2.2.2.1 hok.2.2.2.2.2.2);have h41 := HRS.out.1;clear hok;go_wp2_with fail
     go_roundw
     case rel => exact ⟨_, _, k', fq, HMO.out, HRN.out, by have := HKB.out; omega, by rw [hlen]; omega⟩
     case measure =>
      have hL := HMO.out.pr.left;have hk2 := HKB.out;rw [HLF.out];refine Nat.lt_of_le_of_lt (Nat.le_of_eq hL) (by omega)
    ·go_simp;refine HLN.out.mono ?_;intro e w3 hp
     rcases hp.cases with ⟨hn, ⟨er, at', h0, rfl⟩, hgv⟩ | ⟨l, k', a, c3, hn, rfl, hk, hs⟩
     ·have hR0 : R = none := by rw [<- HRK.out]; exact rest_none hn
      obtain ⟨hb3, hbb⟩ := HJD.out.lost rfl hgv;obtain ⟨⟨x0, x1⟩, ⟨u0, u1⟩, ⟨v0, v1⟩⟩ := hb3;refine leaves_cons (f := 84) (args := #[.pointer (some ⟨w.heap.size, 0, none⟩), .pointer (some ⟨w.heap.size + 1, 0, none⟩)]) (by simp) (by simp [go_sem]) ?_;refine (rcatch_gone w.heap.size (w.heap.size + 1) er at' w3 _ x0 x1 u0 v0 u1 v1 (by omega)).mono ?_;rintro e1 u' w'' ⟨rfl, rfl, rfl⟩;obtain ⟨e0, e1, e2⟩ := (HJD.out.lost rfl hgv).1.laid (.slice none 0 0) er at';simp [Leaves, settle, results, Tryz.results43, go_sem, e0, e1, e2];exact ⟨.inr ⟨er, at', h0, HRT.out.trans hR0, rfl⟩, (((hbb.setCell (by simp) _).setCell (by simp) _).setCell (by simp) _).drew⟩
     have HRS := Hd (rest_some hn);have HJ3 := Hd (HJD.out.step hs rfl);have HKL : Hid (KidsP w3 (fun b => w.heap.size + 1 + 1 < b /\ some b ≠ (Value.slice x L.length cv).ownBlock) l.ex a) := hk.mono fun b hb _ => ⟨by have h1 : wr.heap.size <= b := hb; omega, fun e => by have h1 : wr.heap.size <= b := hb; have := (HJ.out.own.lt b e.symm).2; omega⟩
     have HNM : Hid (l.name.size <= maxLen) := by have := (lnT_ok HT.out hkj (rest_some hn).2).2.1.2.1; unfold Hid maxLen; omega
     have HGA := Hd (HJ3.out.own.alloc (.cells #[.int .i64 l.kind, .string l.name, .int .i64 l.ex.k, .int .i64 l.ex.n, .string l.ex.s, .slice a l.ex.m c3] 52));have HSRC := Hd (Bxs.made w3 (lnL l a c3) 52);have HZA : Hid (w.heap.size + 1 + 1 + 1 <= (w3.alloc (.cells #[.int .i64 l.kind, .string l.name, .int .i64 l.ex.k, .int .i64 l.ex.n, .string l.ex.s, .slice a l.ex.m c3] 52)).heap.size) := by have := HJ3.out.pr.lt; unfold Hid; simp; omega
     obtain ⟨⟨s0, s1⟩, -, -⟩ := HJ3.out.box;have hw3 : w.heap.size < w3.heap.size := by have := HJ3.out.pr.lt; omega
     clear hp hn hk hs;unfold lnV
     try go_wp2_with fail
     refine hK.out _ _ trivial (fun hHeld => ?_);clear hK K
     try simp only [Act.put, layS]
     refine rd2 0 5 rfl (fun K hK => ?_) rfl (fun K hK => ?_)
     ·go_simp;refine hK.out _ _ trivial (fun hHeld => ?_);clear hK K
      try simp only [Act.put, layS]
      refine rd1 5 rfl (fun K hK => ?_);go_simp;refine hK.out _ _ trivial (fun hHeld => ?_);clear hK K
      try simp only [Act.put, layS]
      refine rd1 6 rfl (fun K hK => ?_);refine step_app_ln _ rfl (.tmp 15) (.tmp 20) rfl (w.heap.size + 1 + 1 + 1) (.slice x L.length cv) L (by simp [Act.eval]) HGA.out w3.heap.size 1 ⟨l, a, c3⟩ (by simp [Act.eval]) HSRC.out (by omega) HZA.out ?_;intro v9 w9 hg9 hr9 hv9;obtain ⟨x9, c9, rfl⟩ := hg9.slice;have HMO := Hd (HJ3.out.more rfl HKL.out HNM.out hg9 hr9 hv9);have hq0 : w9.heap[w.heap.size]? = w3.heap[w.heap.size]? := (hr9.block w.heap.size (Nat.lt_of_lt_of_le hw3 (kbelow_box _ _).size) fun e => by have := (HJ3.out.own.lt _ e.symm).1; omega).trans ((kbelow_box _ _).block _ hw3);have q0 := (World.cell?_of_block (a := ⟨w.heap.size, 0, none⟩) hq0).trans s0;have q1 := (World.frozen?_of_block (a := ⟨w.heap.size, 0, none⟩) hq0).trans s1;clear hg9 hr9 hv9 hq0;refine hK.out _ _ trivial (fun hHeld => ?_);clear hK K
      try simp only [Act.put, layS]
      refine rd1 7 rfl (fun K hK => ?_);go_simp;refine hK.out _ _ trivial (fun hHeld => ?_);clear hK K
      try simp only [Act.put, layS]
      refine wpAnyH_done (by kernel_rfl) ?_ _;have hlen : (L ++ [(⟨l, a, c3⟩ : LnC)]).length = L.length + 1 := by simp
      rw [hlen] at HMO;have hok := lnT_ok HT.out hkj HRS.out.2;have HRN : Hid ((lnsT T fq (L ++ [(⟨l, a, c3⟩ : LnC)]).length k').bind (fun q => some ((L ++ [(⟨l, a, c3⟩ : LnC)]).map LnC.l ++ q)) = R) := by
       unfold Hid;rw [<- HRK.out, if_neg HRS.out.1, HRS.out.2, Option.bind_some, hlen]
       dsimp only
       cases lnsT T fq (L.length + 1) k' <;> simp
      have HKB := Hd (And.intro hok.2.2.2.2.2.1 hok.2.2.2.2.2.2);have h41 := HRS.out.1;clear hok;go_wp2_with fail
      go_roundw
      case rel => exact ⟨_, _, k', fq, HMO.out, HRN.out, by have := HKB.out; omega, by rw [hlen]; omega⟩
      case measure =>
       have hL := HMO.out.pr.left;have hk2 := HKB.out;rw [HLF.out];refine Nat.lt_of_le_of_lt (Nat.le_of_eq hL) (by omega)
     ·go_simp;refine hK.out _ _ trivial (fun hHeld => ?_);clear hK K
      try simp only [Act.put, layS]
      refine rd1 0 rfl (fun K hK => ?_);go_simp;refine hK.out _ _ trivial (fun hHeld => ?_);clear hK K
      try simp only [Act.put, layS]
      refine rd1 6 rfl (fun K hK => ?_);refine step_app_ln _ rfl (.tmp 15) (.tmp 20) rfl (w.heap.size + 1 + 1 + 1) (.slice x L.length cv) L (by simp [Act.eval]) HGA.out w3.heap.size 1 ⟨l, a, c3⟩ (by simp [Act.eval]) HSRC.out (by omega) HZA.out ?_;intro v9 w9 hg9 hr9 hv9;obtain ⟨x9, c9, rfl⟩ := hg9.slice;have HMO := Hd (HJ3.out.more rfl HKL.out HNM.out hg9 hr9 hv9);have hq0 : w9.heap[w.heap.size]? = w3.heap[w.heap.size]? := (hr9.block w.heap.size (Nat.lt_of_lt_of_le hw3 (kbelow_box _ _).size) fun e => by have := (HJ3.out.own.lt _ e.symm).1; omega).trans ((kbelow_box _ _).block _ hw3);have q0 := (World.cell?_of_block (a := ⟨w.heap.size, 0, none⟩) hq0).trans s0;have q1 := (World.frozen?_of_block (a := ⟨w.heap.size, 0, none⟩) hq0).trans s1;clear hg9 hr9 hv9 hq0;refine hK.out _ _ trivial (fun hHeld => ?_);clear hK K
      try simp only [Act.put, layS]
      refine rd1 7 rfl (fun K hK => ?_);go_simp;refine hK.out _ _ trivial (fun hHeld => ?_);clear hK K
      try simp only [Act.put, layS]
      refine wpAnyH_done (by kernel_rfl) ?_ _;have hlen : (L ++ [(⟨l, a, c3⟩ : LnC)]).length = L.length + 1 := by simp
      rw [hlen] at HMO;have hok := lnT_ok HT.out hkj HRS.out.2;have HRN : Hid ((lnsT T fq (L ++ [(⟨l, a, c3⟩ : LnC)]).length k').bind (fun q => some ((L ++ [(⟨l, a, c3⟩ : LnC)]).map LnC.l ++ q)) = R) := by
       unfold Hid;rw [<- HRK.out, if_neg HRS.out.1, HRS.out.2, Option.bind_some, hlen]
       dsimp only
       cases lnsT T fq (L.length + 1) k' <;> simp
      have HKB := Hd (And.intro hok.2.2.2.2.2.1 hok.2.2.2.2.2.2);have h41 := HRS.out.1;clear hok;go_wp2_with fail
      go_roundw
      case rel => exact ⟨_, _, k', fq, HMO.out, HRN.out, by have := HKB.out; omega, by rw [hlen]; omega⟩
      case measure =>
       have hL := HMO.out.pr.left;have hk2 := HKB.out;rw [HLF.out];refine Nat.lt_of_le_of_lt (Nat.le_of_eq hL) (by omega)
  ·have hltB : decide ((1 : Int) < (m : Int)) = false := dEf (by omega);have HRE : Hid (R = some (L.map LnC.l)) := by
    unfold Hid;rw [<- HRJ.out, if_pos (by have := HM.out; omega)];simp
   clear HRJ hm;go_wp2_with fail
   go_region
   go_wp2_with fail
   refine leaves_cons (f := 84) (args := #[.pointer (some ⟨w.heap.size, 0, none⟩), .pointer (some ⟨w.heap.size + 1, 0, none⟩)]) (by simp) (by simp [go_sem]) ?_;refine (rcatch_idle ⟨w.heap.size, 0, none⟩ ⟨w.heap.size + 1, 0, none⟩ _).mono ?_;rintro e1 u' w'' ⟨rfl, rfl, rfl⟩;obtain ⟨e0, e1, e2⟩ := HJ.out.box.laid (.slice x L.length cv) 0 0;simp [Leaves, settle, results, Tryz.results43, go_sem, e0, e1, e2];have hpb : w.heap.size + 1 < wr.heap.size := by omega
   have hbl : ∀ b, w.heap.size + 1 + 1 < b -> (((wr.setCell ⟨w.heap.size, 0, none⟩ (.slice x L.length cv)).setCell ⟨w.heap.size + 1, 0, none⟩ (.int .i64 0)).setCell ⟨w.heap.size + 1, 1, none⟩ (.int .i64 0)).heap[b]? = wr.heap[b]? := fun b hb => (Below.heap_setCell _ ⟨w.heap.size + 1, 1, none⟩ _ b (by simp; omega)).trans ((Below.heap_setCell _ ⟨w.heap.size + 1, 0, none⟩ _ b (by simp; omega)).trans (Below.heap_setCell _ ⟨w.heap.size, 0, none⟩ _ b (by simp; omega)))
   refine ⟨.inl ⟨L.map LnC.l, x, L.length, cv, HRT.out.trans HRE.out, rfl, ?_, by simp⟩, (((HJ.out.bel.setCell (by simp) _).setCell (by simp) _).setCell (by simp) _).drew⟩;have hown := ((HJ.out.own.put (a := ⟨w.heap.size, 0, none⟩) (by simp <;> omega) (.slice x L.length cv)).put (a := ⟨w.heap.size + 1, 0, none⟩) (by simp <;> omega) (.int .i64 0)).put (a := ⟨w.heap.size + 1, 1, none⟩) (by simp <;> omega) (.int .i64 0);exact (GrowN.came (B := w.heap.size + 1 + 1 + 1) hown (fun j hj => (HJ.out.kids j hj).to (fun b hb _ => ⟨hbl b hb.1, hb.1, hb.2⟩) (by simp)) HJ.out.nam).to (fun _ _ _ => rfl) (Nat.le_refl _) (by omega)
theorem SpanAt.one {P : Int -> Bool} {s : ByteArray} {a k m : Nat} (h : SpanAt P s a k) (h' : SpanAt P s a m) : k = m := by
 obtain ⟨a1, a2, a3⟩ := h;obtain ⟨b1, b2, b3⟩ := h'
 rcases (show k < m \/ k = m \/ m < k by omega) with e | e | e
 ·have := a3 (by omega);rw [b2 k e] at this
  cases this
 ·exact e
 ·have := b3 (by omega);rw [a2 m e] at this
  cases this
theorem GapAt.one {s : ByteArray} {a b b' : Nat} (h : GapAt s a b) (h' : GapAt s a b') : b = b' := by
 induction h with
 | stop a k hs hn =>
   cases h' with
   | stop _ k' hs' hn' => rw [hs.one hs']
   | more _ k' m n hs' hn' hm hr => rw [hs.one hs'] at hn; exact absurd hn' hn
 | more a k m n hs hn hm hr ih =>
   cases h' with
   | stop _ k' hs' hn' => rw [hs.one hs'] at hn; exact absurd hn hn'
   | more _ k' m' n' hs' hn' hm' hr' =>
     obtain rfl := hs.one hs';obtain rfl := hm.one hm';exact ih hr'
theorem Toks.one {s : ByteArray} : ∀ (n : Nat) {a a' : Nat} {L L' : List Tk}, Toks s a L -> Toks s a' L' -> L.length = n -> L'.length = n -> a = a' /\ L = L' := by
 intro n
 induction n with
 | zero =>
   intro a a' L L' h h' hl hl'
   cases h with
   | start _ hg ha =>
     cases h' with
     | start _ hg' ha' => exact ⟨hg.one hg', rfl⟩
     | step a L k n v p m h ha hf hm hms => simp at hl'
   | step a L k n v p m h ha hf hm hms => simp at hl
 | succ n ih =>
   intro a a' L L' h h' hl hl'
   cases h with
   | start _ hg ha => simp at hl
   | step a L k n1 v p m h ha hf hm hms =>
     cases h' with
     | start _ hg ha => simp at hl'
     | step a' L' k' n1' v' p' m' h' ha' hf' hm' hms' =>
       obtain ⟨rfl, rfl⟩ := ih h h' (by simpa using hl) (by simpa using hl');rw [hf] at hf';injection hf' with e1 e2 e3 e4
       subst e1 e2 e3 e4;rw [hm.one hm'];exact ⟨rfl, rfl⟩
theorem Toks.ahead {s : ByteArray} {a : Nat} {L : List Tk} (h : Toks s a L) : ∀ m, m < L.length -> ∃ a' L' k n v p, Toks s a' L' /\ L'.length = m /\ a' < s.size /\ firstO (s.extract a' s.size) = .tok k n v p := by
 induction h with
 | start => intro m hm; simp at hm
 | step a L k n v p m h ha hf hm hms ih =>
   intro q hq
   by_cases e : q < L.length
   ·exact ih q e
   ·exact ⟨a, L, k, n, v, p, h, by simp at hq; omega, ha, hf⟩
theorem Toks.all {s : ByteArray} {L L' : List Tk} (h : Toks s s.size L) (h' : Toks s s.size L') : L = L' := by
 rcases (show L.length < L'.length \/ L.length = L'.length \/ L'.length < L.length by omega) with e | e | e
 ·obtain ⟨a, M, _, _, _, _, hM, hl, ha, _⟩ := h'.ahead L.length e;have := (Toks.one _ hM h hl rfl).1;omega
 ·exact (Toks.one _ h h' rfl e.symm).2
 ·obtain ⟨a, M, _, _, _, _, hM, hl, ha, _⟩ := h.ahead L'.length e;have := (Toks.one _ hM h' hl rfl).1;omega
theorem Toks.bad {s : ByteArray} {a : Nat} {L L' : List Tk} {e : Int} {o : Nat} (h : Toks s a L) (ha : a < s.size) (hf : firstO (s.extract a s.size) = .bad e o) (h' : Toks s s.size L') : False := by
 rcases (show L.length < L'.length \/ L.length = L'.length \/ L'.length < L.length by omega) with q | q | q
 ·obtain ⟨b, M, _, _, _, _, hM, hl, hb, hf'⟩ := h'.ahead L.length q;obtain rfl := (Toks.one _ hM h hl rfl).1;rw [hf] at hf'
  cases hf'
 ·have := (Toks.one _ h h' rfl q.symm).1;omega
 ·obtain ⟨b, M, _, _, _, _, hM, hl, hb, _⟩ := h.ahead L'.length q;have := (Toks.one _ hM h' hl rfl).1;omega
theorem bt_digit {c : Int} (h : digB c = true) : 48 <= c /\ c <= 57 := of_decide_eq_true h
structure TokGood (t : Tk) : Prop where
 k : 1 <= t.k
 size : 1 <= t.txt.size /\ t.txt.size <= 4000
 num : 0 <= t.num /\ t.num <= 1000000000000
 nam : t.k = 1 -> NameP t.txt
theorem first_good {u : ByteArray} (hu : u.size <= 4000) (h0 : 0 < u.size) {k : Int} {n : Nat} {v : Int} {p : Bool} (h : firstO u = .tok k n v p) (a : Int) : TokGood ⟨k, u.extract 0 n, v, p, a⟩ := by
 have hn := first_len h0 h;have hsz : (u.extract 0 n).size = n := by rw [ByteArray.size_extract]; omega
 have hs : 1 <= (u.extract 0 n).size /\ (u.extract 0 n).size <= 4000 := by omega
 unfold firstO at h
 split at h
 ·unfold wordO at h
  split at h
  ·cases h
  ·rename_i h8
   split at h
   ·injection h with e1 e2 e3 e4
    subst e1 e3;exact ⟨by simp, hs, ⟨by simp, by simp⟩, fun e => by cases e⟩
   ·rename_i hw
    injection h with e1 e2 e3 e4
    subst e1 e3;refine ⟨by simp, hs, ⟨by simp, by simp⟩, fun _ => ?_⟩;have hsp := spanN_is letB u;rw [e2] at hsp hw h8;refine ⟨hs.1, by show (u.extract 0 n).size <= 8; omega, fun j hj => ?_, by simpa using hw⟩;have hj' : j < n := by have : j < (u.extract 0 n).size := hj; omega
    show letB (bt (u.extract 0 n) j) = true
    rw [bt_extract u 0 n j hsp.1 (by omega), Nat.zero_add];exact hsp.2.1 j hj'
 ·split at h
  ·rename_i hd
   have hsp := spanN_is digB u;unfold numO at h
   split at h
   ·rename_i x hx
    have hx0 : 0 <= x := by
     rcases span_atoi hsp hd with ⟨y, hy, he⟩ | he
     ·rw [hx] at he; injection he with he; omega
     ·rw [hx] at he; cases he
    split at h
    ·cases h
    ·split at h
     ·cases h
     ·split at h
      ·injection h with e1 e2 e3 e4
       subst e1 e3;exact ⟨by simp, hs, ⟨by show 0 <= 100 * x; omega, by show 100 * x <= 1000000000000; omega⟩, fun e => by cases e⟩
      ·split at h
       ·cases h
       ·rename_i hdot h2
        split at h
        ·rename_i hle
         injection h with e1 e2 e3 e4
         subst e1 e3;have hsd := spanN_is digB (u.extract (spanN digB u + 1) u.size);have d0 := hsd.2.1 0 (by omega);have d1 := hsd.2.1 1 (by omega);rw [bt_suffix] at d0 d1;have q0 := bt_digit d0;have q1 := bt_digit d1;rw [Nat.add_zero] at q0;rw [show spanN digB u + 1 + 1 = spanN digB u + 2 by omega] at q1;exact ⟨by simp, hs, ⟨by show 0 <= 100 * x + _; omega, hle⟩, fun e => by cases e⟩
        ·cases h
   ·cases h
  ·unfold signO at h
   split at h
   ·injection h with e1 e2 e3 e4
    subst e1 e3;exact ⟨by simp, hs, ⟨by simp, by simp⟩, fun e => by cases e⟩
   ·split at h
    ·injection h with e1 e2 e3 e4
     subst e1 e3;exact ⟨by simp, hs, ⟨by simp, by simp⟩, fun e => by cases e⟩
    ·cases h
theorem toks_good {s : ByteArray} (hs : s.size <= 4000) {a : Nat} {L : List Tk} (h : Toks s a L) : ∀ t ∈ L, TokGood t := by
 induction h with
 | start => intro t ht; cases ht
 | step a L k n v p m h ha hf hm hms ih =>
   intro t ht;rw [List.mem_append] at ht
   rcases ht with ht | ht
   ·exact ih t ht
   ·simp only [List.mem_cons, List.not_mem_nil, or_false] at ht;subst ht;exact first_good (by rw [ByteArray.size_extract]; omega) (by rw [ByteArray.size_extract]; omega) hf _
def endK (s : ByteArray) : Tk := ⟨0, ⟨#[]⟩, 0, false, s.size⟩
theorem tkth_mem {L : List Tk} {j : Nat} (h : j < L.length) : tkth L j ∈ L := by
 unfold tkth;rw [List.getD_eq_getElem?_getD, List.getElem?_eq_getElem h];exact List.getElem_mem h
theorem tkth_lt {L M : List Tk} {j : Nat} (h : j < L.length) : tkth (L ++ M) j = tkth L j := by
 unfold tkth;rw [List.getD_eq_getElem?_getD, List.getD_eq_getElem?_getD, List.getElem?_append_left h]
theorem tkth_end {L : List Tk} {t : Tk} : tkth (L ++ [t]) L.length = t := by
 unfold tkth;rw [List.getD_eq_getElem?_getD, List.getElem?_append_right (Nat.le_refl _)];simp
theorem tok_ok {s : ByteArray} {L : List Tk} (hl : L.length <= 4000) (hg : ∀ t ∈ L, TokGood t) : TokOk (L ++ [endK s]) := by
 have hlen : (L ++ [endK s]).length = L.length + 1 := by simp
 have he : tkth (L ++ [endK s]) ((L ++ [endK s]).length - 1) = endK s := by rw [hlen]; exact tkth_end
 have cs : ∀ j, j < (L ++ [endK s]).length -> tkth (L ++ [endK s]) j = endK s \/ TokGood (tkth (L ++ [endK s]) j) := fun j hj => by
  by_cases e : j < L.length
  ·right; rw [tkth_lt e]; exact hg _ (tkth_mem e)
  ·left
   have : j = L.length := by omega
   subst this;exact tkth_end
 refine ⟨by omega, by unfold kdT; rw [he]; rfl, by rw [he]; rfl, fun j hj => ?_, fun j hj => ?_, by omega, fun j hj hk => ?_, fun j hj hk => ?_⟩
 ·rcases cs j hj with h | h
  ·rw [h]; exact Nat.zero_le _
  ·exact h.size.2
 ·unfold nmT
  rcases cs j hj with h | h
  ·rw [h]; exact ⟨by simp [endK], by simp [endK]⟩
  ·exact h.num
 ·unfold kdT at hk
  rcases cs j hj with h | h
  ·rw [h] at hk; exact absurd rfl hk
  ·intro e;have := h.size.1;rw [e] at this;exact absurd this (by decide)
 ·unfold kdT at hk
  rcases cs j hj with h | h
  ·rw [h] at hk; cases hk
  ·exact h.nam hk
structure PVars (w : World) : Prop where
 err : TabE w
 lw : LWs w
 ts : TSs w
theorem PVars.below {w w' : World} (h : PVars w) (hb : Below w.heap.size w w') : PVars w' :=
 ⟨h.err.below hb, fun j hj => (hb.cell (p := ⟨1, j, none⟩) (blt_of_cell (h.lw j hj))).trans (h.lw j hj), fun j hj => (hb.cell (p := ⟨3, j, none⟩) (blt_of_cell (h.ts j hj))).trans (h.ts j hj)⟩
def ParseR (s : ByteArray) (w' : World) (B : Nat) (e : Ending) : Prop :=
 (∃ L l x n c, s.size <= 4000 /\ Toks s s.size L /\ linesT (L ++ [endK s]) = some l /\ e = .returned (.tuple #[.slice x n c, .agg #[.int .i64 0, .int .i64 0]]) /\ CameF w' B x l /\ l.length = n) ∨
 (∃ er at' : Int, er ≠ 0 /\ e = .returned (.tuple #[.slice none 0 0, .agg #[.int .i64 er, .int .i64 at']]) /\ ∀ L, s.size <= 4000 -> Toks s s.size L -> linesT (L ++ [endK s]) = none)
theorem bad_ne {u : ByteArray} {e : Int} {o : Nat} (h : firstO u = .bad e o) : e ≠ 0 := by
 unfold firstO at h;have h1 : ∀ {n}, wordO u n = .bad e o -> e ≠ 0 := fun {n} h => by
  unfold wordO at h
  (repeat' split at h) <;> first | (injection h with h1 _; subst h1; decide) | cases h
 have h2 : ∀ {n}, numO u n = .bad e o -> e ≠ 0 := fun {n} h => by
  unfold numO at h
  (repeat' split at h) <;> first | (injection h with h1 _; subst h1; decide) | cases h
 have h3 : signO u = .bad e o -> e ≠ 0 := fun h => by
  unfold signO at h
  (repeat' split at h) <;> first | (injection h with h1 _; subst h1; decide) | cases h
 (repeat' split at h)
 ·exact h1 h
 ·exact h2 h
 ·exact h3 h
theorem split_err {w : World} {B : Nat} {s : ByteArray} {v : Value} {er at' : Int} (h : TopIs w B s v er at') (h0 : er ≠ 0) : v = .slice none 0 0 /\ ∀ L, s.size <= 4000 -> ¬ Toks s s.size L := by
 rcases h with ⟨h1, rfl, _⟩ | ⟨h1, ⟨L, hT, hG, he, _⟩ | ⟨a, L, o, hT, ha, hf, rfl, _⟩⟩
 ·exact ⟨rfl, fun L hs => by omega⟩
 ·exact absurd he h0
 ·exact ⟨rfl, fun L' _ h' => hT.bad ha hf h'⟩
theorem split_ok {w : World} {B : Nat} {s : ByteArray} {v : Value} {er at' : Int} (h : TopIs w B s v er at') (h0 : er = 0) : at' = 0 /\ s.size <= 4000 /\ ∃ L, Toks s s.size L /\ GrowT w B v L := by
 rcases h with ⟨h1, _, he, _⟩ | ⟨h1, ⟨L, hT, hG, _, rfl⟩ | ⟨a, L, o, hT, ha, hf, _, _⟩⟩
 ·omega
 ·exact ⟨rfl, h1, L, hT, hG⟩
 ·exact absurd h0 (bad_ne hf)
theorem TopIs.sl {w : World} {B : Nat} {s : ByteArray} {v : Value} {er at' : Int} (h : TopIs w B s v er at') : ∃ x n c, v = .slice x n c := by
 rcases h with ⟨_, h, _⟩ | ⟨_, h⟩
 ·exact ⟨_, _, _, h⟩
 ·exact h.slice
theorem two_made (w : World) (a b : Value) (T : TypeId) : Bxs (w.alloc (.cells #[a, b] T)) w.heap.size [a, b] := Bxs.made w [a, b] T
theorem Bxs.two {w : World} {g : Nat} {a b : Value} (h : Bxs w g [a, b]) : (w.cell? ⟨g, 0, none⟩ = some a /\ w.cell? ⟨g, 1, none⟩ = some b) /\ (w.frozen? ⟨g, 0, none⟩ = false /\ w.frozen? ⟨g, 1, none⟩ = false) :=
 ⟨⟨(h 0 a rfl).1, (h 1 b rfl).1⟩, (h 0 a rfl).2, (h 1 b rfl).2⟩
theorem Parse_any (s : ByteArray) (w : World) (hs : s.size <= 9223372036854775807) (hV : PVars w) :
 Calls Tryz.prog 15 #[.string s] w fun e w' => ParseR s w' w.heap.size e /\ Below w.heap.size w w' := by
 have HB0 := Hd (kbelow_box w (.cells #[.int .i64 0, .int .i64 0] 42));have HX0 := Hd (two_made w (.int .i64 0) (.int .i64 0) 42);have hz0 : w.heap.size < (w.alloc (.cells #[.int .i64 0, .int .i64 0] 42)).heap.size := by simp
 have HV0 := Hd (hV.below HB0.out);have HVL : Hid (1 < w.heap.size /\ 3 < w.heap.size) := ⟨blt_of_cell (hV.lw 0 (by omega)), blt_of_cell (hV.ts 0 (by omega))⟩;clear hV
 go_enter Tryz.func15, Tryz.ntmps15
 go_wp2_with fail
 refine (Split_any s _ hs HV0.out.err).mono ?_;rintro e w1 ⟨v, er, at', rfl, htop, hb⟩;have HTP := Hd htop;obtain ⟨x, n, c, rfl⟩ := htop.sl;have HB1 := Hd (HB0.out.trans (hb.mono HB0.out.size));have HX1 := Hd (HX0.out.below hb hz0);have HV1 := Hd (HV0.out.below hb);have hz1 : w.heap.size < w1.heap.size := Nat.lt_of_lt_of_le hz0 hb.size;obtain ⟨⟨x0, x1⟩, z0, z1⟩ := HX1.out.two;clear hb htop HX0 hz0 HB0 HV0
 by_cases h0 : er = 0
 ·obtain ⟨rfl, hs4, L, hT, hG⟩ := split_ok HTP.out h0;subst h0;have HTK := Hd hT;have HGR := Hd hG;have hlL : L.length <= 4000 := by have := hT.len; omega
  obtain ⟨x', c', hv⟩ := hG.slice;injection hv with e1 e2 e3
  subst e1 e2 e3;clear hT hG;have hB1 : (w.alloc (.cells #[.int .i64 0, .int .i64 0] 42)).heap.size = w.heap.size + 1 := by simp
  rw [hB1] at HGR;clear hB1;go_wp2_with (at_builtin; refine wpList_app_tok _ rfl _ _ rfl (w.heap.size + 1) _ L rfl ?hgw (w1.heap.size + 1 + 1) 1 (endK s) rfl ?hcm ?hbd ?hB ?_; rotate_right; intro v9 w9 hg9 hb9 hgr9; refine Hid.out ?_)
  case hgw => exact ((HGR.out.alloc _).alloc _).alloc _
  case hcm =>
   have h1 := Bxs.made ((w1.alloc (.cells #[.int .i64 0, .int .i64 0] 42)).alloc (.cells #[.int .i64 0, .string ⟨#[]⟩, .int .i64 0, .bool false, .int .i64 (s.size : Int)] 94)) (tqL (endK s)) 94;have h2 : ((w1.alloc (.cells #[.int .i64 0, .int .i64 0] 42)).alloc (.cells #[.int .i64 0, .string ⟨#[]⟩, .int .i64 0, .bool false, .int .i64 (s.size : Int)] 94)).heap.size = w1.heap.size + 1 + 1 := by simp
   rw [h2] at h1;exact h1.five.1
  case hbd => omega
  case hB => simp; omega
  have hlen : (L ++ [endK s]).length = L.length + 1 := by simp
  obtain ⟨g9, c9, rfl, hB9, hT9⟩ : ∃ g c, v9 = .slice (some ⟨g, 0, none⟩) (L ++ [endK s]).length c /\ (L ++ [endK s]).length <= c /\ TAt w9 g (L ++ [endK s]) := by
   rcases hg9.form with ⟨_, h⟩ | ⟨g, c, h1, h2, h3⟩
   ·exact absurd h (by simp)
   ·refine ⟨g, c, h1, ?_, h3⟩
    rcases hg9.2 with ⟨_, h4⟩ | ⟨g', c', cur, h4, _, _, h5, _⟩
    ·simp at h4
    ·rw [h1] at h4;injection h4 with _ _ h6
     rw [h6];exact h5
  have HB3 : Hid (Below w.heap.size w (((w1.alloc (.cells #[.int .i64 0, .int .i64 0] 42)).alloc (.cells #[.int .i64 0, .string ⟨#[]⟩, .int .i64 0, .bool false, .int .i64 (s.size : Int)] 94)).alloc (.cells #[.int .i64 0, .string ⟨#[]⟩, .int .i64 0, .bool false, .int .i64 (s.size : Int)] 94))) := ((HB1.out.alloc (by omega) _).alloc (by simp; omega) _).alloc (by simp; omega) _;have hbk : ∀ b, b < w1.heap.size -> (((w1.alloc (.cells #[.int .i64 0, .int .i64 0] 42)).alloc (.cells #[.int .i64 0, .string ⟨#[]⟩, .int .i64 0, .bool false, .int .i64 (s.size : Int)] 94)).alloc (.cells #[.int .i64 0, .string ⟨#[]⟩, .int .i64 0, .bool false, .int .i64 (s.size : Int)] 94)).heap[b]? = w1.heap[b]? := fun b hb => ((kbelow_box _ _).block b (by simp; omega)).trans (((kbelow_box _ _).block b (by simp; omega)).trans ((kbelow_box _ _).block b hb))
  have HX9 := Hd (HX1.out.to ((hb9.block w.heap.size (by omega)).trans (hbk _ hz1)));have HV9 : Hid (LWs w9 /\ TSs w9) := by
   have hlw : 1 < w.heap.size /\ 3 < w.heap.size := HVL.out;have e1 := (hb9.block 1 (by omega)).trans (hbk _ (by omega));have e2 := (hb9.block 3 (by omega)).trans (hbk _ (by omega));exact ⟨fun j hj => (World.cell?_of_block (a := ⟨1, j, none⟩) e1).trans (HV1.out.lw j hj), fun j hj => (World.cell?_of_block (a := ⟨3, j, none⟩) e2).trans (HV1.out.ts j hj)⟩
  have HB9 := Hd (HB3.out.trans (hb9.mono (by omega)));have hz9 : w.heap.size < w9.heap.size := by have := hgr9.size; simp at this; omega
  have HPA := Hd (parse_any g9 c9 (L ++ [endK s]) (tok_ok hlL (toks_good hs4 HTK.out)) w9 hT9.1 hB9 hT9.2 HV9.out.1 HV9.out.2);rw [hlen] at HPA;clear hg9 hb9 hgr9 hbk hT9 x0 x1 z0 z1 hlen hB9;refine Hd ?_;go_wp2_with fail
  refine HPA.out.mono ?_;rintro e w10 ⟨hp, hb10⟩;have HX10 := Hd (HX9.out.below hb10 hz9);have HB10 := Hd (HB9.out.trans (hb10.mono HB9.out.size));have hz10 : w.heap.size < w10.heap.size := Nat.lt_of_lt_of_le hz9 hb10.size;obtain ⟨⟨y0, y1⟩, z0, z1⟩ := HX10.out.two;clear hb10
  rcases hp with ⟨l, x', n', c', hl, rfl, hcm, hln⟩ | ⟨er, at', h0, hl, rfl⟩
  ·have HC := Hd hcm;have HLN := Hd (And.intro hl hln);have HF := Hd (fault_put (e := 0) (f := 0) y0 y1);clear hcm hl hln;go_wp2_with fail
   refine bodyPost_ret (v := .tuple #[.slice x' n' c', .agg #[.int .i64 0, .int .i64 0]]) ?_ rfl ?_
   rotate_left
   ·exact ⟨.inl ⟨L, l, x', n', c', hs4, HTK.out, HLN.out.1, rfl, HC.out.to (fun b hb _ => (Below.heap_setCell _ ⟨w.heap.size, 1, none⟩ _ b (by simp; omega)).trans (Below.heap_setCell _ ⟨w.heap.size, 0, none⟩ _ b (by simp; omega))) (by simp) (by omega), HLN.out.2⟩, (HB10.out.setCell (by simp) _).setCell (by simp) _⟩
   simp [results, Tryz.results15, go_sem, HF.out.1, HF.out.2]
  ·have HNE := Hd (And.intro h0 hl);have HF := Hd (fault_put (e := er) (f := at') y0 y1);clear h0 hl;go_wp2_with fail
   refine bodyPost_ret (v := .tuple #[.slice none 0 0, .agg #[.int .i64 er, .int .i64 at']]) ?_ rfl ?_
   rotate_left
   ·exact ⟨.inr ⟨er, at', HNE.out.1, rfl, fun L' _ hT' => by rw [HTK.out.all hT'] at HNE; exact HNE.out.2⟩, (HB10.out.setCell (by simp) _).setCell (by simp) _⟩
   simp [results, Tryz.results15, go_sem, HF.out.1, HF.out.2]
 ·obtain ⟨hv, hno⟩ := split_err HTP.out h0;injection hv with e1 e2 e3
  subst e1 e2 e3;have HNO := Hd hno;have HNE := Hd h0;have d0 : (er != 0) = true := by simp [h0]
  have d0' : (er == 0) = false := by simp [h0]
  clear h0 hno;go_wp2_with fail
  go_region
  go_wp2_with fail
  refine bodyPost_ret (v := .tuple #[.slice none 0 0, .agg #[.int .i64 er, .int .i64 at']]) ?_ rfl ?_
  rotate_left
  ·exact ⟨.inr ⟨er, at', HNE.out, rfl, fun L hs4 hT => absurd hT (HNO.out L hs4)⟩, (((HB1.out.setCell (by simp) _).setCell (by simp) _).alloc (by simp; omega) _).drew⟩
  have HF := fault_put (e := er) (f := at') x0 x1;simp [results, Tryz.results15, go_sem, HF.1, HF.2, hz1]
def toksF (s : ByteArray) : Nat -> Nat -> Option (List Tk)
 | 0, _ => none
 | f + 1, a => if a = s.size then some [] else if s.size < a then none else
   match firstO (s.extract a s.size) with
   | .tok k n v p => if bt (s.extract (a + n) s.size) (spanN blkB (s.extract (a + n) s.size)) = 35 then none else (toksF s f (a + n + spanN blkB (s.extract (a + n) s.size))).bind fun M => some (⟨k, (s.extract a s.size).extract 0 n, v, p, a⟩ :: M)
   | .bad _ _ => none
theorem toksF_is {s : ByteArray} : ∀ (f a : Nat) (L M : List Tk), Toks s a L -> toksF s f a = some M -> Toks s s.size (L ++ M) := by
 intro f
 induction f with
 | zero => intro a L M _ h; cases h
 | succ f ih =>
   intro a L M hT h;rw [toksF] at h
   split at h
   ·rename_i e
    injection h with h
    subst e h;rw [List.append_nil];exact hT
   ·split at h
    ·cases h
    ·split at h
     ·rename_i k n v p hf
      split at h
      ·cases h
      ·rename_i hne
       obtain ⟨M', h1, h2⟩ := Option.bind_eq_some_iff.1 h;injection h2 with h2
       subst h2;have hn := first_len (s := s.extract a s.size) (by rw [ByteArray.size_extract]; omega) hf;rw [ByteArray.size_extract] at hn;have hsp := spanN_is blkB (s.extract (a + n) s.size);have hsz := hsp.1;rw [ByteArray.size_extract] at hsz;have hg : GapAt (s.extract (a + n) s.size) 0 (spanN blkB (s.extract (a + n) s.size)) := by
        have := GapAt.stop (s := s.extract (a + n) s.size) 0 (spanN blkB (s.extract (a + n) s.size)) ⟨by rw [Nat.zero_add]; exact hsp.1, fun j hj => by rw [Nat.zero_add]; exact hsp.2.1 j hj, fun h => by rw [Nat.zero_add] at h ⊢; exact hsp.2.2 h⟩ (by rw [Nat.zero_add]; exact hne)
        rwa [Nat.zero_add] at this
       have hst := Toks.step a L k n v p _ hT (by omega) hf hg (by omega);have := ih _ _ M' hst h1
       rwa [List.append_assoc] at this
     ·cases h
theorem toksF_all {s : ByteArray} {f : Nat} {M : List Tk} (h0 : spanN blkB s = 0) (h1 : bt s 0 ≠ 35) (h : toksF s f 0 = some M) : Toks s s.size M := by
 have hsp := spanN_is blkB s;rw [h0] at hsp;have hg : GapAt s 0 0 := GapAt.stop 0 0 ⟨by omega, fun j hj => absurd hj (by omega), fun h => hsp.2.2 (by omega)⟩ h1;have := toksF_is f 0 [] M (.start 0 hg (Nat.zero_le _)) h
 simpa using this
def rbT : ByteArray := ⟨#[108, 101, 116, 32, 97, 32, 61, 32, 49, 32, 43, 32, 50, 32, 42, 32, 51, 59]⟩
def rbL : List Tk := (toksF rbT 40 0).getD []
def rbX : List Ln := [⟨4, ⟨#[97]⟩, twoX 7 (leafX 1 100 noT) (oneX 9 3 noT (leafX 1 200 noT))⟩]
theorem rb_some : (toksF rbT 40 0).isSome = true := by decide +kernel
theorem rb_toks : Toks rbT rbT.size rbL := by
 refine toksF_all (f := 40) (by decide +kernel) (by decide +kernel) ?_;have h := rb_some;unfold rbL
 cases hq : toksF rbT 40 0 with
 | none => rw [hq] at h; cases h
 | some M => rfl
theorem rb_lines : linesT (rbL ++ [endK rbT]) = some rbX := by kernel_rfl
end Go.Proofs.YtmlpedgcpffpnaaGreatDoor
