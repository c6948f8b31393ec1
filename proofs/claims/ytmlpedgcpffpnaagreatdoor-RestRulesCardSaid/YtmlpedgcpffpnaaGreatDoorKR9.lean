/-
  Promise P2, of rules: the walks of the reference's SameExpr and SameLines at lines that are the same.
-/
import Derived.Test.YtmlpedgcpffpnaaGreatDoorKZ0
import Derived.Test.YtmlpedgcpffpnaaGreatDoorKQ2
import Derived.Lib.QuietBelow
import Derived.BigQuiet
import Derived.Test.YtmlpedgcpffpnaaGreatDoorKQN
import Derived.Test.YtmlpedgcpffpnaaGreatDoorKR4
import Derived.Test.YtmlpedgcpffpnaaGreatDoorKQI
import Derived.Test.YtmlpedgcpffpnaaGreatDoorKQP
set_option linter.unusedSimpArgs false
set_option maxRecDepth 100000
set_option maxHeartbeats 8000000
namespace Go.Proofs.YtmlpedgcpffpnaaGreatDoor
open Go.RowKit
def Ex.like : Ex -> Ex -> Prop
 | .no, _ => False
 | .mk k n s m kid, y => y.k = k /\ y.n = n /\ y.s = s /\ y.m = m /\ ∀ j, j < m -> (kid j).like (y.kid j)
def likes : List Ln -> List Ln -> Prop
 | [], [] => True
 | a :: r, b :: q => (b.kind = a.kind /\ b.name = a.name /\ a.ex.like b.ex) /\ likes r q
 | _, _ => False
theorem like_self {w : World} : ∀ {x : Ex} {a : Option Addr}, KidsAt w x a -> x.like x := by
 intro x
 induction x with
 | no => intro a h; exact h.elim
 | mk k n s m kid ih =>
   intro a h;refine ⟨rfl, rfl, rfl, rfl, fun j hj => ?_⟩;obtain ⟨_, _, h | ⟨b, off, rfl, _, h⟩⟩ := h
   ·omega
   ·obtain ⟨aj, _, _, h2⟩ := h j hj;exact ih j h2
theorem likes_of : ∀ {l : List Ln}, (∀ r ∈ l, r.ex.like r.ex) -> likes l l
 | [], _ => trivial
 | a :: _, h => ⟨⟨rfl, rfl, h a (List.mem_cons_self ..)⟩, likes_of fun q hq => h q (List.mem_cons_of_mem _ hq)⟩
theorem likes_self {w : World} {x : Option Addr} {l : List Ln} (h : CameL w x l) : likes l l := likes_of fun r hr => by
 obtain ⟨j, hj, rfl⟩ := List.mem_iff_getElem.1 hr;obtain ⟨_, _, _, h⟩ := h.open rfl (by omega);obtain ⟨_, _, _, _, hk⟩ := h w (Below.refl _ _) j hj;have e : lnth l j = l[j] := by unfold lnth; rw [List.getD_eq_getElem?_getD, List.getElem?_eq_getElem hj]; rfl
 rw [e] at hk;exact like_self hk
theorem sameExpr_like : ∀ (x y : Ex), x.like y -> ∀ (a b : Option Addr) (c d : Nat) (w : World), KidsAt w x a -> KidsAt w y b →
 Calls Tryz.prog 60 #[.agg #[.int .i64 x.k, .int .i64 x.n, .string x.s, .slice a x.m c], .agg #[.int .i64 y.k, .int .i64 y.n, .string y.s, .slice b y.m d]] w fun e w' => e = .returned (.bool true) /\ Below w.heap.size w w' := by
 intro x
 induction x with
 | no => intro y h; rw [Ex.like] at h; exact h.elim
 | mk k n s m kid ih =>
   intro y h a b c d w hx hy;rw [Ex.like] at h;obtain ⟨h1, h2, h3, h4, h5⟩ := h;rw [h1, h2, h3, h4]
   show Calls Tryz.prog 60 #[.agg #[.int .i64 k, .int .i64 n, .string s, .slice a m c], .agg #[.int .i64 k, .int .i64 n, .string s, .slice b m d]] w _
   have HB0 : Hid (Below w.heap.size w ((w.alloc (.cells #[.int .i64 k, .int .i64 n, .string s, .slice a m c] 50)).alloc (.cells #[.int .i64 k, .int .i64 n, .string s, .slice b m d] 50))) := Hd (((Below.refl w.heap.size w).alloc (Nat.le_refl _) _).alloc (by simp) _);have HXO := Hd (fun (h0 : 0 < m) => (hx.below HB0.out).open h0);have HYO := Hd (fun (h0 : 0 < m) => (hy.below HB0.out).open (by rw [h4]; exact h0));rw [h4] at HYO;have HIH := Hd (fun j hj => ih j (y.kid j) (h5 j hj));have hm9 : m <= 9223372036854775807 := by have := hx.many; simp only [Ex.m] at this; unfold maxLen at this; omega
   have u3 : ((w.alloc (.cells #[.int .i64 k, .int .i64 n, .string s, .slice a m c] 50)).alloc (.cells #[.int .i64 k, .int .i64 n, .string s, .slice b m d] 50)).cell? ⟨w.heap.size, 3, none⟩ = some (.slice a m c) := by simp
   have v3 : ((w.alloc (.cells #[.int .i64 k, .int .i64 n, .string s, .slice a m c] 50)).alloc (.cells #[.int .i64 k, .int .i64 n, .string s, .slice b m d] 50)).cell? ⟨w.heap.size + 1, 3, none⟩ = some (.slice b m d) := by simp
   have HU := Hd u3;have HV := Hd v3;have hnk : (k != k) = false := by simp
   have hnn : (n != n) = false := by simp
   have hnm : ((m : Int) != (m : Int)) = false := by simp
   clear hx hy h1 h2 h3 h4 h5 ih u3 v3
   go_enter Tryz.func60, Tryz.ntmps60
   go_wp2_with fail
   generalize ((w.alloc (.cells #[.int .i64 k, .int .i64 n, .string s, .slice a m c] 50)).alloc (.cells #[.int .i64 k, .int .i64 n, .string s, .slice b m d] 50)) = W at *
   go_loopw [5] (fun i wr => ∃ j : Nat, j <= m /\ i = .int .i64 j /\ Below W.heap.size W wr) (fun i _ => m - (intOf i).toNat)
   case atStart => exact ⟨0, Nat.zero_le _, rfl, Below.refl _ _⟩
   case round =>
    obtain ⟨j, hj, rfl, hb⟩ := hrel;have HB := Hd hb;have u3 := (HB.out.cell (p := ⟨w.heap.size, 3, none⟩) (blt_of_cell HU.out)).trans HU.out;have v3 := (HB.out.cell (p := ⟨w.heap.size + 1, 3, none⟩) (blt_of_cell HV.out)).trans HV.out;clear hb
    by_cases hlt : j < m
    ·have hlt' : (j : Int) < (m : Int) := by omega
     obtain ⟨b1, o1, rfl, hc1⟩ := HXO.out (by omega);obtain ⟨b2, o2, rfl, hc2⟩ := HYO.out (by omega);obtain ⟨aj, cj, ⟨p0, p1, p2, p3⟩, hk1⟩ := hc1 wr HB.out j hlt;obtain ⟨bj, dj, ⟨q0, q1, q2, q3⟩, hk2⟩ := hc2 wr HB.out j hlt;have p0' : wr.cell? ⟨b1, o1 + j * 4, none⟩ = some (.int .i64 (kid j).k) := p0;have p1' : wr.cell? ⟨b1, o1 + j * 4 + 1, none⟩ = some (.int .i64 (kid j).n) := p1;have p2' : wr.cell? ⟨b1, o1 + j * 4 + 2, none⟩ = some (.string (kid j).s) := p2;have p3' : wr.cell? ⟨b1, o1 + j * 4 + 3, none⟩ = some (.slice aj (kid j).m cj) := p3;have HKJ := Hd (fun W' (hW : Below wr.heap.size wr W') => HIH.out j hlt aj bj cj dj W' (hk1.below hW) (hk2.below hW));clear hc1 hc2 hk1 hk2 p0 p1 p2 p3;generalize (kid j).k = xk at *;generalize (kid j).n = xn at *;generalize (kid j).s = xs at *;generalize (kid j).m = xm at *;generalize (y.kid j).k = yk at *;generalize (y.kid j).n = yn at *;generalize (y.kid j).s = ys at *;generalize (y.kid j).m = ym at *;have k0 := cell_regrown p0';have k1 := cell_regrown p1';have k2 := cell_regrown p2';have k3 := cell_regrown p3';have j0 := cell_regrown q0;have j1 := cell_regrown q1;have j2 := cell_regrown q2;have j3 := cell_regrown q3;have l0 := cell_regrown u3;have l1 := cell_regrown v3;go_wp2_with fail
     refine wp_region_quiet_below (by kernel_rfl) (by kernel_rfl) ?_
     repeat (quiet_step (exact Calls.regrown_of (HKJ.out _ (below_regrown _ _ _))))
     refine wpQuiet_nil ?_;intro _ hw';obtain ⟨⟨dq, osq⟩, hw''⟩ := hw';subst hw'';have HB2 := Hd (HB.out.trans ((below_regrown wr dq osq).mono HB.out.size));go_wp2_with fail
     go_roundw
     case rel => exact ⟨j + 1, by omega, by go_num, HB2.out⟩
     case measure => simp [intOf]; omega
    ·have hltB : decide ((j : Int) < (m : Int)) = false := dEf (by omega);have HBE := Hd (HB0.out.trans (HB.out.mono HB0.out.size));go_wp2_with fail
     go_ret;exact ⟨rfl, HBE.out⟩
theorem likes_at : ∀ {l l' : List Ln}, likes l l' -> l'.length = l.length /\ ∀ j, j < l.length -> (lnth l' j).kind = (lnth l j).kind /\ (lnth l' j).name = (lnth l j).name /\ (lnth l j).ex.like (lnth l' j).ex
 | [], [], _ => ⟨rfl, fun j hj => absurd hj (by simp)⟩
 | a :: r, b :: q, h => by
   obtain ⟨h1, h2⟩ := likes_at h.2;refine ⟨by simp [h1], fun j hj => ?_⟩
   cases j with
   | zero => exact h.1
   | succ j => exact h2 j (by simpa using hj)
 | [], _ :: _, h => h.elim
 | _ :: _, [], h => h.elim
theorem sameLines_likes (x y : Option Addr) (n c d : Nat) (l l' : List Ln) (w : World) (hx : CameL w x l) (hy : CameL w y l') (hl : likes l l') (hn : l.length = n) (hm : n <= maxLen) :
 Calls Tryz.prog 22 #[.slice x n c, .slice y n d] w fun e w' => e = .returned (.bool true) /\ Below w.heap.size w w' := by
 obtain ⟨hl1, hl2⟩ := likes_at hl;have HX := Hd (fun h0 => hx.open hn h0);have HY := Hd (fun h0 => hy.open (hl1.trans hn) h0);have HLK := Hd (fun j (hj : j < n) => hl2 j (by omega));have hnn : ((n : Int) != (n : Int)) = false := by simp
 have hm9 : n <= 9223372036854775807 := by unfold maxLen at hm; omega
 clear hx hy hn hl hl1 hl2 hm
 go_enter Tryz.func22, Tryz.ntmps22
 go_wp2_with fail
 go_loopw [5] (fun i wr => ∃ j : Nat, j <= n /\ i = .int .i64 j /\ Below w.heap.size w wr) (fun i _ => n - (intOf i).toNat)
 case atStart => exact ⟨0, Nat.zero_le _, rfl, Below.refl _ _⟩
 case round =>
  obtain ⟨j, hj, rfl, hb⟩ := hrel;have HB := Hd hb;clear hb
  by_cases hlt : j < n
  ·have hlt' : (j : Int) < (n : Int) := by omega
   obtain ⟨b1, o1, rfl, hc1⟩ := HX.out (by omega);obtain ⟨b2, o2, rfl, hc2⟩ := HY.out (by omega);obtain ⟨aj, cj, ⟨x0, x1, x2, x3, x4, x5⟩, -, hk1⟩ := hc1 wr HB.out j hlt;obtain ⟨bj, dj, ⟨y0, y1, y2, y3, y4, y5⟩, -, hk2⟩ := hc2 wr HB.out j hlt;obtain ⟨e1, e2, e3⟩ := HLK.out j hlt;rw [e1] at y0;rw [e2] at y1;have HKJ := Hd (fun W' (hW : Below wr.heap.size wr W') => sameExpr_like _ _ e3 aj bj cj dj W' (hk1.below hW) (hk2.below hW));clear hc1 hc2 hk1 hk2 e1 e2 e3;generalize (lnth l j).kind = lk at *;generalize (lnth l j).name = ln at *;generalize (lnth l j).ex.k = xk at *;generalize (lnth l j).ex.n = xn at *;generalize (lnth l j).ex.s = xs at *;generalize (lnth l j).ex.m = xm at *;generalize (lnth l' j).ex.k = yk at *;generalize (lnth l' j).ex.n = yn at *;generalize (lnth l' j).ex.s = ys at *;generalize (lnth l' j).ex.m = ym at *;have k0 := cell_regrown x0;have k1 := cell_regrown x1;have k2 := cell_regrown x2;have k3 := cell_regrown x3;have k4 := cell_regrown x4;have k5 := cell_regrown x5;have j0 := cell_regrown y0;have j1 := cell_regrown y1;have j2 := cell_regrown y2;have j3 := cell_regrown y3;have j4 := cell_regrown y4;have j5 := cell_regrown y5;have hnk : (lk != lk) = false := by simp
   go_wp2_with fail
   refine wp_region_quiet_below (by kernel_rfl) (by kernel_rfl) ?_
   repeat (go_big_quiet_step (exact Calls.regrown_of (HKJ.out _ (below_regrown _ _ _))))
   refine wpQuiet_nil ?_;intro _ hw';obtain ⟨⟨dq, osq⟩, hw''⟩ := hw';subst hw'';have HB2 := Hd (HB.out.trans ((below_regrown wr dq osq).mono HB.out.size));go_wp2_with fail
   go_roundw
   case rel => exact ⟨j + 1, by omega, by go_num, HB2.out⟩
   case measure => simp [intOf]; omega
  ·have hltB : decide ((j : Int) < (n : Int)) = false := dEf (by omega);go_wp2_with fail
   go_ret;exact ⟨rfl, HB.out⟩
def Ex.head (y z : Ex) : Prop := z.k = y.k /\ z.n = y.n /\ z.s = y.s /\ z.m = y.m
theorem Ex.head.refl (y : Ex) : y.head y := ⟨rfl, rfl, rfl, rfl⟩
theorem Ex.head.trans {a b c : Ex} (h : a.head b) (h' : b.head c) : a.head c := ⟨h'.1.trans h.1, h'.2.1.trans h.2.1, h'.2.2.1.trans h.2.2.1, h'.2.2.2.trans h.2.2.2⟩
structure Spt (P : Nat -> Prop) (W W' : World) : Prop where
 os : W'.os = W.os
 tape : W'.tape = W.tape
 output : W'.output = W.output
 size : W.heap.size <= W'.heap.size
 out : ∀ b, b < W.heap.size -> ¬ P b -> W'.heap[b]? = W.heap[b]?
 st : ∀ (y : Ex) (a : Option Addr), KidsP W P y a -> ∃ y' : Ex, y.head y' /\ y'.depth <= y.depth /\ KidsP W' P y' a
theorem Spt.trans {P : Nat -> Prop} {A B C : World} (h : Spt P A B) (h' : Spt P B C) : Spt P A C :=
 ⟨h'.os.trans h.os, h'.tape.trans h.tape, h'.output.trans h.output, Nat.le_trans h.size h'.size, fun b hb hP => (h'.out b (Nat.lt_of_lt_of_le hb h.size) hP).trans (h.out b hb hP), fun y a hk => by
  obtain ⟨y1, h1, h2, h3⟩ := h.st y a hk;obtain ⟨y2, q1, q2, q3⟩ := h'.st y1 a h3;exact ⟨y2, h1.trans q1, Nat.le_trans q2 h2, q3⟩⟩
theorem Spt.of_below {P : Nat -> Prop} {W W' : World} (hb : Below W.heap.size W W') : Spt P W W' :=
 ⟨hb.os, hb.tape, hb.output, hb.size, fun b h _ => hb.block b h, fun y _ h => ⟨y, .refl y, Nat.le_refl _, h.below hb⟩⟩
theorem maxN_mo {f g : Nat -> Nat} : ∀ {m : Nat}, (∀ j, j < m -> f j <= g j) -> maxN f m <= maxN g m
 | 0, _ => Nat.le_refl _
 | m + 1, h => by
   have h1 := maxN_mo (f := f) (g := g) (m := m) (fun j hj => h j (by omega));have h2 := h m (by omega);unfold maxN;omega
theorem depth_pos {w : World} {P : Nat -> Prop} {x : Ex} {a : Option Addr} (h : KidsP w P x a) : 1 <= x.depth := by
 cases x with
 | no => exact h.elim
 | mk k n s m kid => rw [mk_depth]; omega
theorem spt_store {P : Nat -> Prop} {W W' : World} {b i : Nat} (hos : W'.os = W.os) (htape : W'.tape = W.tape) (hout : W'.output = W.output) (hsz : W'.heap.size = W.heap.size) (hP : P b)
 (hblk : ∀ q, q ≠ b -> W'.heap[q]? = W.heap[q]?) (hfz : ∀ o, W'.frozen? ⟨b, o, none⟩ = W.frozen? ⟨b, o, none⟩)
 (hc : ∀ o, (o < i * 4 \/ i * 4 + 4 <= o) -> W'.cell? ⟨b, o, none⟩ = W.cell? ⟨b, o, none⟩) (hn : XCells W' b (i * 4) (leafX (-1) 0 noT) none 0) : Spt P W W' := by
 refine ⟨hos, htape, hout, Nat.le_of_eq hsz.symm, fun q _ hq => hblk q (fun e => hq (by rw [e]; exact hP)), ?_⟩;intro y
 induction y with
 | no => intro a h; exact h.elim
 | mk k n s m kid ih =>
   intro a h;obtain ⟨h1, h2, h⟩ := h
   rcases h with h | ⟨bz, rfl, hPz, hB, h⟩
   ·exact ⟨.mk k n s m kid, .refl _, Nat.le_refl _, h1, h2, .inl h⟩
   ·have each : ∀ j, j < m -> ∃ z : Ex, z.depth <= (kid j).depth /\ ∃ (aj : Option Addr) (cj : Nat), XCells W' bz (j * 4) z aj cj /\ KidsP W' P z aj := by
     intro j hj;obtain ⟨aj, cj, q1, q2⟩ := h j hj
     by_cases e : bz = b /\ j = i
     ·obtain ⟨rfl, rfl⟩ := e;exact ⟨leafX (-1) 0 noT, by rw [(leaf_depth _ _ _).1]; exact depth_pos q2, none, 0, hn, KidsP.leaf _ _ _ _ _ _ (by unfold noT maxLen; exact Nat.zero_le _)⟩
     ·obtain ⟨z, e1, e2, e3⟩ := ih j aj q2;refine ⟨z, e2, aj, cj, ?_, e3⟩;have cell : ∀ c, c < 4 -> W'.cell? ⟨bz, j * 4 + c, none⟩ = W.cell? ⟨bz, j * 4 + c, none⟩ := fun c hcc => by
       by_cases hb : bz = b
       ·subst hb;refine hc _ ?_;have : j ≠ i := fun q => e ⟨rfl, q⟩
        omega
       ·exact World.cell?_of_block (a := ⟨bz, j * 4 + c, none⟩) (hblk bz hb)
      obtain ⟨x0, x1, x2, x3⟩ := q1;obtain ⟨g0, g1, g2, g3⟩ := e1;exact ⟨(cell 0 (by omega)).trans (by rw [g0]; exact x0), (cell 1 (by omega)).trans (by rw [g1]; exact x1), (cell 2 (by omega)).trans (by rw [g2]; exact x2), (cell 3 (by omega)).trans (by rw [g3]; exact x3)⟩
    haveI : Inhabited Ex := ⟨.no⟩
    obtain ⟨q, hq⟩ := Deep.choose_lt each;refine ⟨.mk k n s m q, ⟨rfl, rfl, rfl, rfl⟩, ?_, h1, h2, .inr ⟨bz, rfl, hPz, ⟨by rw [hsz]; exact hB.1, fun o => ?_⟩, fun j hj => (hq j hj).2⟩⟩
    ·rw [mk_depth, mk_depth];have := maxN_mo (fun j hj => (hq j hj).1);omega
    ·by_cases hb : bz = b
     ·subst hb; rw [hfz]; exact hB.2 o
     ·exact (World.frozen?_of_block (a := ⟨bz, o, none⟩) (hblk bz hb)).trans (hB.2 o)
theorem putL_behind (g : Nat) {j : Nat} : ∀ (us : List Value) (i : Nat) (w : World), i + us.length <= j -> (putL w g i us).cell? ⟨g, j, none⟩ = w.cell? ⟨g, j, none⟩
 | [], _, _, _ => rfl
 | v :: us, i, w, h => by
   simp only [List.length_cons] at h;rw [putL, putL_behind g us (i + 1) _ (by omega), World.cell?_setCell_other (h := fun e => by injection e; omega)]
theorem spt_cells {P : Nat -> Prop} {W : World} {y : Ex} {b i : Nat} (h : KidsP W P y (some ⟨b, 0, none⟩)) (hi : i < y.m) :
 (∃ u, W.cell? ⟨b, i * 4, none⟩ = some u) /\ (∃ u, W.cell? ⟨b, i * 4 + 1, none⟩ = some u) /\ (∃ u, W.cell? ⟨b, i * 4 + 2, none⟩ = some u) /\ (∃ u, W.cell? ⟨b, i * 4 + 3, none⟩ = some u) ∧
 W.frozen? ⟨b, i * 4, none⟩ = false /\ W.frozen? ⟨b, i * 4 + 1, none⟩ = false /\ W.frozen? ⟨b, i * 4 + 2, none⟩ = false /\ W.frozen? ⟨b, i * 4 + 3, none⟩ = false := by
 cases y with
 | no => exact h.elim
 | mk k n s m kid =>
   obtain ⟨_, _, h | ⟨b', e, _, hB, h⟩⟩ := h
   ·have : i < m := hi;omega
   ·injection e with e
    injection e with e _ _
    subst e;obtain ⟨_, _, ⟨h0, h1, h2, h3⟩, _⟩ := h i hi;exact ⟨⟨_, h0⟩, ⟨_, h1⟩, ⟨_, h2⟩, ⟨_, h3⟩, hB.2 _, hB.2 _, hB.2 _, hB.2 _⟩
theorem spt_put {P : Nat -> Prop} {W : World} {b i : Nat} {u0 u1 u2 u3 : Value} (hP : P b) (h0 : W.cell? ⟨b, i * 4, none⟩ = some u0) (h1 : W.cell? ⟨b, i * 4 + 1, none⟩ = some u1) (h2 : W.cell? ⟨b, i * 4 + 2, none⟩ = some u2) (h3 : W.cell? ⟨b, i * 4 + 3, none⟩ = some u3) :
 Spt P W (putL W b (i * 4) [.int .i64 (-1), .int .i64 0, .string ⟨#[]⟩, .slice none 0 0]) := by
 have hc := putL_cell b [.int .i64 (-1), .int .i64 0, .string ⟨#[]⟩, .slice none 0 0] (i * 4) W (fun j hj => by
  simp only [List.length_cons, List.length_nil] at hj
  rcases (show j = 0 \/ j = 1 \/ j = 2 \/ j = 3 by omega) with rfl | rfl | rfl | rfl
  ·exact ⟨_, h0⟩
  ·exact ⟨_, h1⟩
  ·exact ⟨_, h2⟩
  ·exact ⟨_, h3⟩)
 refine spt_store (putL_rest b _ _ W).1 (putL_rest b _ _ W).2.1 (putL_rest b _ _ W).2.2 (putL_size b _ _ W) hP (fun q hq => putL_block b hq _ _ W) (fun o => putL_frozen b _ _ _ W) (fun o ho => ?_) ⟨hc 0 _ rfl, hc 1 _ rfl, hc 2 _ rfl, hc 3 _ rfl⟩
 rcases ho with ho | ho
 ·exact putL_ahead b _ _ W ho
 ·exact putL_behind b _ _ W (by simp only [List.length_cons, List.length_nil]; omega)
theorem spoil_any (P : Nat -> Prop) : ∀ (d : Nat) (x : Ex) (a : Option Addr) (c : Nat) (W : World), x.depth <= d -> (∀ b, P b -> b < W.heap.size) -> KidsP W P x a →
 Calls Tryz.prog 20 #[exV x a c] W fun e w' => e = .returned (.tuple #[]) /\ Spt P W w' := by
 intro d
 induction d with
 | zero => intro x a c W hd _ hk; have := depth_pos hk; omega
 | succ d ih =>
   intro x a c W hd hPB hk;have HIH := Hd ih;have HD := Hd hd;have HPB := Hd hPB;have hm : x.m <= maxLen := hk.kids.many;have HM : Hid (x.m <= 9223372036854775807) := Hd (by unfold maxLen at hm; omega);have hbx := kbelow_box W (.cells #[.int .i64 x.k, .int .i64 x.n, .string x.s, .slice a x.m c] 50);have HB0 := Hd (Spt.of_below (P := P) hbx);have HX0 := Hd (Bxs.made W (exL x a c) 50);have HK0 := Hd (hk.below hbx);clear ih hd hPB hk hm hbx;unfold exV
   go_enter Tryz.func20, Tryz.ntmps20
   go_wp2_with fail
   unfold exL at HX0;have HSL : Hid (W.heap.size < (W.alloc (.cells #[.int .i64 x.k, .int .i64 x.n, .string x.s, .slice a x.m c] 50)).heap.size) := Hd (by simp);generalize W.alloc (.cells #[.int .i64 x.k, .int .i64 x.n, .string x.s, .slice a x.m c] 50) = W1 at HB0 HX0 HK0 HSL ⊢;generalize hg : W.heap.size = bx at HX0 HSL ⊢
   go_loopw [2] (fun iv wr => ∃ (i : Nat) (y : Ex), i <= x.m /\ iv = .int .i64 (i : Int) /\ Spt P W wr /\ Bxs wr bx [.int .i64 x.k, .int .i64 x.n, .string x.s, .slice a x.m c] /\ y.m = x.m /\ y.depth <= x.depth /\ KidsP wr P y a /\ bx < wr.heap.size) (fun iv _ => x.m - (intOf iv).toNat)
   case atStart => exact ⟨0, x, Nat.zero_le _, rfl, HB0.out, HX0.out, rfl, Nat.le_refl _, HK0.out, HSL.out⟩
   case round =>
    clear HB0 HX0 HK0 HSL;obtain ⟨i, y, him, rfl, hsp, hx, hym, hyd, hk, hl⟩ := hrel;have HSP := Hd hsp;obtain ⟨⟨x0, x1, x2, x3⟩, -⟩ := hx.four;have HX := Hd hx;have HL := Hd hl;clear hsp hx hl
    by_cases hlt : i < x.m
    ·have hlt' : (i : Int) < (x.m : Int) := by omega
     have hK2 := hk
     cases y with
     | no => exact hk.elim
     | mk yk yn ys ym kid =>
       have hym' : ym = x.m := hym;obtain ⟨h1, h2, h⟩ := hk
       rcases h with h | ⟨b, rfl, hPb, hB, h⟩
       ·omega
       ·obtain ⟨aj, cj, ⟨y0, y1, y2, y3⟩, hkj⟩ := h i (by omega);have hdj : (kid i).depth <= d := by
         rw [mk_depth] at hyd;have := maxN_at (f := fun j => (kid j).depth) (m := ym) (j := i) (by omega);have := HD.out;omega
        have HCJ := Hd (HIH.out (kid i) aj cj wr hdj (fun q hq => Nat.lt_of_lt_of_le (HPB.out q hq) HSP.out.size) hkj);have HY := Hd hK2;have HPN : Hid (¬ P bx) := fun hp => by have := HPB.out bx hp; omega
        have hbne : b ≠ bx := fun e => HPN.out (by rw [<- e]; exact hPb)
        have HPb := Hd hPb;have HYM := Hd hym';have HYD := Hd hyd;clear h h1 h2 hkj hdj hK2 hPb hym hyd hB;unfold exV at HCJ;have hi0 : (0 : Int) <= (i : Int) := by omega
        have hwi : IntKind.i64.wrap ((i : Int) + 1) = (i : Int) + 1 := by have := HM.out; exact IntWalk.i64_in _ (by omega)
        go_wp2_with fail
        refine HCJ.out.mono ?_;rintro e w5 ⟨rfl, hs⟩;have HX5 := Hd (HX.out.to (hs.out bx HL.out HPN.out));have HL5 := Hd (Nat.lt_of_lt_of_le HL.out hs.size);have HS5 := Hd (HSP.out.trans hs);obtain ⟨y5, hh, hd5, hk5⟩ := hs.st _ _ HY.out;have hm5 : y5.m = x.m := hh.2.2.2.trans HYM.out;have hd6 := Nat.le_trans hd5 HYD.out;have HK5 := Hd hk5;have HH5 := Hd (And.intro hm5 hd6);obtain ⟨z0, z1, z2, z3, f0, f1, f2, f3⟩ := spt_cells hk5 (show i < y5.m by omega);clear hs hh hd5 hk5 hm5 hd6 x0 x1 x2 x3 y0 y1 y2 y3 HCJ HY;obtain ⟨⟨x0, x1, x2, x3⟩, -⟩ := HX5.out.four;obtain ⟨u0, hu0⟩ := z0;obtain ⟨u1, hu1⟩ := z1;obtain ⟨u2, hu2⟩ := z2;obtain ⟨u3, hu3⟩ := z3;have HST := Hd (spt_put (P := P) (i := i) HPb.out hu0 hu1 hu2 hu3);have HXN := Hd (HX5.out.to (putL_block b (fun e => hbne e.symm) [.int .i64 (-1), .int .i64 0, .string ⟨#[]⟩, .slice none 0 0] (i * 4) w5));have HSZ := Hd (putL_size b [.int .i64 (-1), .int .i64 0, .string ⟨#[]⟩, .slice none 0 0] (i * 4) w5);simp only [putL, Nat.add_assoc, Nat.reduceAdd] at HST HXN HSZ;go_wp2_with fail
        obtain ⟨y6, hh6, hd6, hk6⟩ := HST.out.st y5 _ HK5.out;go_roundw
        case rel => exact ⟨i + 1, y6, by omega, by go_num, HS5.out.trans HST.out, HXN.out, hh6.2.2.2.trans HH5.out.1, Nat.le_trans hd6 HH5.out.2, hk6, by rw [HSZ.out]; exact HL5.out⟩
        case measure => simp [intOf]; omega
    ·obtain rfl : i = x.m := by omega
     have hlt' : ¬ ((x.m : Nat) : Int) < (x.m : Int) := by omega
     go_wp2_with fail
     exact ⟨rfl, .tuple #[], by simp [results, Tryz.results20], rfl, HSP.out⟩
theorem BindIs.unique {l : List Ln} {k : Kn} {i e i' e' : Int} (h : BindIs l k i e) (h' : BindIs l k i' e') : i = i' /\ e = e' := by
 rcases h with ⟨a1, a2, a3⟩ | ⟨a1, a2, a3, a4⟩ | ⟨a1, a2, a3⟩ <;> rcases h' with ⟨b1, b2, b3⟩ | ⟨b1, b2, b3, b4⟩ | ⟨b1, b2, b3⟩
 ·exact ⟨by omega, by omega⟩
 ·exact absurd b1 a1
 ·exact absurd b1 a1
 ·exact absurd a1 b1
 ·exact ⟨by omega, by omega⟩
 ·exact absurd b2 a2
 ·exact absurd a1 b1
 ·exact absurd a2 b2
 ·rcases a3 with ⟨c1, c2, c3⟩ | ⟨j, c1, c2, c3, c4, c5⟩ <;> rcases b3 with ⟨d1, d2, d3⟩ | ⟨q, d1, d2, d3, d4, d5⟩
  ·exact ⟨by omega, by omega⟩
  ·exact absurd (d3.trans (c3 q d1)) d4
  ·exact absurd (c3.trans (d3 j c1)) c4
  ·have : j = q := by
    by_cases h1 : j < q
    ·exact absurd (c3.trans (d5 j h1)) c4
    ·by_cases h2 : q < j
     ·exact absurd (d3.trans (c5 q h2)) d4
     ·omega
   subst this;exact ⟨by omega, by omega⟩
theorem lnsT_40q {T : List Tk} : ∀ (f c k : Nat) (l : List Ln), c <= 40 -> lnsT T f c k = some l -> c + l.length <= 40
 | 0, _, _, _, _, h => by cases h
 | f + 1, c, k, l, hc, h => by
   rw [lnsT] at h
   split at h
   ·injection h with h
    subst h
    simpa using hc
   ·split at h
    ·cases h
    ·rename_i h1 h2
     obtain ⟨⟨a, k1⟩, e1, h⟩ := Option.bind_eq_some_iff.1 h;obtain ⟨q, e2, h⟩ := Option.bind_eq_some_iff.1 h;injection h with h
     subst h;have := lnsT_40q f (c + 1) k1 q (by omega) e2;simp only [List.length_cons];omega
def mkP (l : List Ln) (k : Kn) (er : Int) : List Bk := if er = 0 then linesC l k l.length else []
def RowR (w : World) (B : Nat) (x : Option Addr) (P : List Bk) : Prop := P.length = 0 \/ ∃ g, x = some ⟨g, 0, none⟩ /\ B <= g /\ g < w.heap.size /\ ∀ j, j < P.length -> w.cell? ⟨g, j * 2, none⟩ = some (.int .i64 (bnth P j).frm) /\ w.cell? ⟨g, j * 2 + 1, none⟩ = some (.int .i64 (bnth P j).rate)
theorem RowR.to {w w' : World} {B : Nat} {x : Option Addr} {P : List Bk} (h : RowR w B x P) (hb : ∀ b, B <= b -> b < w.heap.size -> w'.heap[b]? = w.heap[b]?) (hs : w.heap.size <= w'.heap.size) : RowR w' B x P := by
 rcases h with h | ⟨g, h1, h2, h3, h4⟩
 ·exact .inl h
 ·exact .inr ⟨g, h1, h2, Nat.lt_of_lt_of_le h3 hs, fun j hj => ⟨(World.cell?_of_block (a := ⟨g, j * 2, none⟩) (hb g h2 h3)).trans (h4 j hj).1, (World.cell?_of_block (a := ⟨g, j * 2 + 1, none⟩) (hb g h2 h3)).trans (h4 j hj).2⟩⟩
theorem RowR.below {w w' : World} {B : Nat} {x : Option Addr} {P : List Bk} (h : RowR w B x P) (hb : Below w.heap.size w w') : RowR w' B x P := h.to (fun b _ hB => hb.block b hB) hb.size
theorem MakeR.one {l : List Ln} {k : Kn} {w w' : World} {e : Ending} (h : MakeR l k w e w') :
 Below w.heap.size w w' /\ ∃ (i er : Int) (x : Option Addr) (c : Nat), BindIs l k i er /\ e = .returned (.tuple #[.slice x (mkP l k er).length c, .int .i64 er]) /\ RowR w' w.heap.size x (mkP l k er) /\ (mkP l k er).length <= 100000 := by
 obtain ⟨hb, ⟨i, er, h0, hbi, rfl⟩ | ⟨hok, v, B, hB, hg, rfl⟩⟩ := h
 ·refine ⟨hb, i, er, none, 0, hbi, ?_, .inl ?_, ?_⟩
  ·unfold mkP; rw [if_neg h0]; rfl
  ·unfold mkP; rw [if_neg h0]; rfl
  ·unfold mkP; rw [if_neg h0]; exact Nat.zero_le _
 ·have hlen : (linesC l k l.length).length <= 100000 := by
   have h1 := linesC_len hok l.length (Nat.le_refl _);have h2 := linesE_4000 hok.err;have h3 := linesE_40 hok.err;omega
  have hm : mkP l k 0 = linesC l k l.length := by unfold mkP; rw [if_pos rfl]
  rcases hg.form with ⟨rfl, hnil⟩ | ⟨g, c, rfl, hBg, hat, _⟩
  ·refine ⟨hb, 0, 0, none, 0, .inr (.inr ⟨hok.err, hok.known, .inl ⟨rfl, rfl, hok.ok⟩⟩), ?_, .inl ?_, ?_⟩
   ·rw [hm, hnil]; rfl
   ·rw [hm, hnil]; rfl
   ·rw [hm]; exact hlen
  ·refine ⟨hb, 0, 0, _, c, .inr (.inr ⟨hok.err, hok.known, .inl ⟨rfl, rfl, hok.ok⟩⟩), by rw [hm], .inr ⟨g, rfl, by omega, hat.1, fun j hj => ?_⟩, by rw [hm]; exact hlen⟩;rw [hm] at hj ⊢;have := hat.2 j hj;rw [Nat.zero_add] at this;exact this
structure SpL (w6 w : World) (B0 B1 g n : Nat) (x : Option Addr) (l : List Ln) (i : Nat) : Prop where
 os : w.os = w6.os
 tape : w.tape = w6.tape
 output : w.output = w6.output
 size : w6.heap.size <= w.heap.size
 blk : ∀ b, b < w6.heap.size -> (b < B0 \/ B1 <= b) -> w.heap[b]? = w6.heap[b]?
 row : 0 < n -> x = some ⟨g, 0, none⟩ /\ B0 <= g /\ g < B1 /\ ∀ q, w.frozen? ⟨g, q, none⟩ = false
 ln : ∀ j, i <= j -> j < n -> ∃ (aj : Option Addr) (cj : Nat) (y : Ex), LnIs w g (j * 6) (lnth l j) aj cj /\ (lnth l j).ex.head y /\ KidsP w (fun b => B0 <= b /\ b < B1 /\ b ≠ g) y aj
theorem LnIs.toq {w w' : World} {b o : Nat} {r : Ln} {a : Option Addr} {c : Nat} (h : LnIs w b o r a c) (hb : w'.heap[b]? = w.heap[b]?) : LnIs w' b o r a c :=
 ⟨(World.cell?_of_block (a := ⟨b, o, none⟩) hb).trans h.1, (World.cell?_of_block (a := ⟨b, o + 1, none⟩) hb).trans h.2.1, (World.cell?_of_block (a := ⟨b, o + 2, none⟩) hb).trans h.2.2.1, (World.cell?_of_block (a := ⟨b, o + 3, none⟩) hb).trans h.2.2.2.1, (World.cell?_of_block (a := ⟨b, o + 4, none⟩) hb).trans h.2.2.2.2.1, (World.cell?_of_block (a := ⟨b, o + 5, none⟩) hb).trans h.2.2.2.2.2⟩
theorem SpL.start {w4 w6 : World} {B0 n : Nat} {x : Option Addr} {l : List Ln} (h : CameF w4 B0 x l) (hn : l.length = n) (hb : Below w4.heap.size w4 w6) : ∃ g, SpL w6 w6 B0 w4.heap.size g n x l 0 := by
 rcases h w4 (fun _ _ _ => rfl) (Nat.le_refl _) with h | ⟨g, rfl, hg, hgs, h⟩
 ·exact ⟨0, rfl, rfl, rfl, Nat.le_refl _, fun _ _ _ => rfl, fun h0 => by omega, fun j _ hj => by omega⟩
 ·refine ⟨g, rfl, rfl, rfl, Nat.le_refl _, fun _ _ _ => rfl, fun _ => ⟨rfl, hg, hgs.1, fun q => (World.frozen?_of_block (a := ⟨g, q, none⟩) (hb.block g hgs.1)).trans (hgs.2 q)⟩, fun j _ hj => ?_⟩;obtain ⟨aj, cj, h1, _, h3⟩ := h j (by omega);exact ⟨aj, cj, _, h1.toq (hb.block g hgs.1), .refl _, (h3.mono (Q := fun b => B0 <= b /\ b < w4.heap.size /\ b ≠ g) fun b hB hs => ⟨hB.1, hs, hB.2⟩).below hb⟩
theorem SpL.below {w w6 wr : World} {B0 B1 g n : Nat} {x : Option Addr} {l : List Ln} {i : Nat} (h : SpL w6 wr B0 B1 g n x l i) (hb : Below w.heap.size w w6) (h0 : w.heap.size <= B0) : Below w.heap.size w wr :=
 ⟨h.os.trans hb.os, h.tape.trans hb.tape, h.output.trans hb.output, Nat.le_trans hb.size h.size, fun b hB => (h.blk b (Nat.lt_of_lt_of_le hB hb.size) (.inl (Nat.lt_of_lt_of_le hB h0))).trans (hb.block b hB)⟩
theorem SpL.spoilt {w6 wr w5 : World} {B0 B1 g n : Nat} {x : Option Addr} {l : List Ln} {i : Nat} (h : SpL w6 wr B0 B1 g n x l i) (h1 : B1 <= w6.heap.size) (hs : Spt (fun b => B0 <= b /\ b < B1 /\ b ≠ g) wr w5) : SpL w6 w5 B0 B1 g n x l i := by
 have hg : 0 < n -> w5.heap[g]? = wr.heap[g]? := fun h0 => hs.out g (by have := (h.row h0).2.2.1; have := h.size; omega) fun e => e.2.2 rfl
 refine ⟨hs.os.trans h.os, hs.tape.trans h.tape, hs.output.trans h.output, Nat.le_trans h.size hs.size, fun b hB hP => (hs.out b (Nat.lt_of_lt_of_le hB h.size) fun e => by omega).trans (h.blk b hB hP), fun h0 => ?_, fun j hi hj => ?_⟩
 ·obtain ⟨r1, r2, r3, r4⟩ := h.row h0;exact ⟨r1, r2, r3, fun q => (World.frozen?_of_block (a := ⟨g, q, none⟩) (hg h0)).trans (r4 q)⟩
 ·obtain ⟨aj, cj, y, q1, q2, q3⟩ := h.ln j hi hj;obtain ⟨y', e1, _, e3⟩ := hs.st y aj q3;exact ⟨aj, cj, y', q1.toq (hg (by omega)), q2.trans e1, e3⟩
theorem SpL.next {w6 w5 : World} {B0 B1 g n : Nat} {x : Option Addr} {l : List Ln} {i : Nat} (h : SpL w6 w5 B0 B1 g n x l i) (h0 : 0 < n) : SpL w6 (putL w5 g (i * 6) [.int .i64 0, .string ⟨#[]⟩, .int .i64 0, .int .i64 0, .string ⟨#[]⟩, .slice none 0 0]) B0 B1 g n x l (i + 1) := by
 obtain ⟨r1, r2, r3, r4⟩ := h.row h0;obtain ⟨p1, p2, p3⟩ := putL_rest g [.int .i64 0, .string ⟨#[]⟩, .int .i64 0, .int .i64 0, .string ⟨#[]⟩, .slice none 0 0] (i * 6) w5;refine ⟨p1.trans h.os, p2.trans h.tape, p3.trans h.output, by rw [putL_size]; exact h.size, fun b hB hP => (putL_block g (fun e => by omega) _ _ _).trans (h.blk b hB hP), fun _ => ⟨r1, r2, r3, fun q => by rw [putL_frozen]; exact r4 q⟩, fun j hi hj => ?_⟩;obtain ⟨aj, cj, y, q1, q2, q3⟩ := h.ln j (by omega) hj;have cg : ∀ o, (putL w5 g (i * 6) [.int .i64 0, .string ⟨#[]⟩, .int .i64 0, .int .i64 0, .string ⟨#[]⟩, .slice none 0 0]).cell? ⟨g, j * 6 + o, none⟩ = w5.cell? ⟨g, j * 6 + o, none⟩ := fun o => putL_behind g _ _ _ (by simp only [List.length_cons, List.length_nil]; omega)
 exact ⟨aj, cj, y, ⟨(cg 0).trans q1.1, (cg 1).trans q1.2.1, (cg 2).trans q1.2.2.1, (cg 3).trans q1.2.2.2.1, (cg 4).trans q1.2.2.2.2.1, (cg 5).trans q1.2.2.2.2.2⟩, q2, q3.put (fun b hb => hb.2.2) _ _⟩
end Go.Proofs.YtmlpedgcpffpnaaGreatDoor
