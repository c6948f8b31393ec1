/-
  Promise P2, of rules: which token has the text of a word or a sign: no walk.
-/
import Derived.Test.YtmlpedgcpffpnaaGreatDoorKZ0
import Derived.Test.YtmlpedgcpffpnaaGreatDoorKQP
import Derived.Test.YtmlpedgcpffpnaaGreatDoorKQM
import Derived.Test.YtmlpedgcpffpnaaGreatDoorKQ2
import Derived.Test.YtmlpedgcpffpnaaGreatDoorKQN
import Derived.Test.YtmlpedgcpffpnaaGreatDoorKQ3
import Derived.Deep.RegionHeld
import Derived.Deep.RegionWith
set_option linter.unusedSimpArgs false
set_option maxRecDepth 100000
set_option maxHeartbeats 8000000
namespace Go.Proofs.YtmlpedgcpffpnaaGreatDoor
open Go.RowKit
def kwB (l : List UInt8) : Bool := !digB (bt ⟨l.toArray⟩ 0) && (wordB ⟨l.toArray⟩ || !letB (bt ⟨l.toArray⟩ 0))
theorem first_kw {u : ByteArray} (h0 : 0 < u.size) {k : Int} {n : Nat} {v : Int} {p : Bool} (h : firstO u = .tok k n v p) {l : List UInt8} (hl : u.extract 0 n = ⟨l.toArray⟩) (hk : kwB l = true) : 3 <= k := by
 have hn := first_len h0 h;have hb : bt ⟨l.toArray⟩ 0 = bt u 0 := by
  rw [<- hl, bt_extract u 0 n 0 (by omega) (by omega)]
 unfold kwB at hk;rw [hb, <- hl] at hk;unfold firstO at h
 split at h
 ·rename_i hs
  have hsp := (spanN_is letB u).2.1 0 hs;unfold wordO at h
  split at h
  ·cases h
  ·split at h
   ·injection h with e1
    omega
   ·rename_i hw
    injection h with e1 e2
    rw [e2] at hw;rw [hsp] at hk;simp [hw] at hk
 ·split at h
  ·rename_i hs
   have hsp := (spanN_is digB u).2.1 0 hs;rw [hsp] at hk;simp at hk
  ·unfold signO at h
   split at h
   ·injection h with e1
    omega
   ·split at h
    ·injection h with e1
     omega
    ·cases h
theorem toks_kw {s : ByteArray} {a : Nat} {L : List Tk} (h : Toks s a L) : ∀ t ∈ L, ∀ l : List UInt8, t.txt = ⟨l.toArray⟩ -> kwB l = true -> 3 <= t.k := by
 induction h with
 | start => intro t ht; cases ht
 | step a L k n v p m h ha hf hm hms ih =>
   intro t ht;rw [List.mem_append] at ht
   rcases ht with ht | ht
   ·exact ih t ht
   ·simp only [List.mem_cons, List.not_mem_nil, or_false] at ht;subst ht;intro l hl hk;exact first_kw (by rw [ByteArray.size_extract]; omega) hf hl hk
def isR (L : List Tk) (k : Nat) (s : ByteArray) : Bool := decide (k < L.length) && (decide (3 <= (tkth L k).k) && ((tkth L k).txt.toList == s.toList))
theorem lit_toL (l : List UInt8) : (⟨l.toArray⟩ : ByteArray).toList = l := by rw [ByteArray.toList_eq]
structure RkL (s : ByteArray) (L T : List Tk) : Prop where
 tk : Toks s s.size L
 sz : s.size <= 4000
 end_ : T = L ++ [endK s]
 ok : TokOk T
theorem RkL.len {s : ByteArray} {L T : List Tk} (h : RkL s L T) : T.length = L.length + 1 := by rw [h.end_]; simp
theorem RkL.at_ {s : ByteArray} {L T : List Tk} (h : RkL s L T) {k : Nat} (hk : k < L.length) : tkth T k = tkth L k := by rw [h.end_]; exact tkth_lt hk
theorem RkL.last {s : ByteArray} {L T : List Tk} (h : RkL s L T) : tkth T L.length = endK s := by rw [h.end_]; exact tkth_end
theorem isR_yes {s : ByteArray} {L T : List Tk} (h : RkL s L T) {k : Nat} {l : List UInt8} (hk : k < T.length) (ht : isT T k l = true) (hl : kwB l = true) (h0 : l ≠ []) : isR L k ⟨l.toArray⟩ = true := by
 have h1 := h.ok.text hk ht h0;have hkl : k < L.length := by have := h.len; omega
 rw [isT_eq, h.at_ hkl] at ht;have h3 := toks_kw h.tk _ (tkth_mem hkl) l ht hl;unfold isR;rw [decide_eq_true hkl, decide_eq_true h3, ht];simp
theorem isR_no {s : ByteArray} {L T : List Tk} (h : RkL s L T) {k : Nat} {l : List UInt8} (ht : ¬ isT T k l = true) : isR L k ⟨l.toArray⟩ = false := by
 unfold isR
 by_cases hkl : k < L.length
 ·have : ¬ (tkth L k).txt.toList = l := fun e => ht (by
   rw [isT_eq, h.at_ hkl]
   apply ByteArray.ext
   rw [ByteArray.toList_eq] at e;rw [<- e])
  rw [lit_toL l, beq_eq_false_iff_ne.2 this, Bool.and_false, Bool.and_false]
 ·rw [dEf hkl]; rfl
def tksV (g n c : Nat) (z : Int) : Value := .agg #[.slice (some ⟨g, 0, none⟩) n c, .int .i64 z]
theorem is_ref (L : List Tk) (g n c : Nat) (z : Int) (k : Nat) (s : ByteArray) (w : World) (hT : TAt w g L) (hn : L.length = n) :
 Calls Tryz.prog 54 #[tksV g n c z, .int .i64 k, .string s] w fun e w' => e = .returned (.bool (isR L k s)) /\ Below w.heap.size w w' := by
 have HB0 := Hd (kbelow_box w (.cells #[.slice (some ⟨g, 0, none⟩) n c, .int .i64 z] 118));unfold tksV
 by_cases h : k < n
 ·obtain ⟨t0, t1, -⟩ := hT.2 k (by omega);have y0 := (HB0.out.cell (p := ⟨g, k * 5, none⟩) hT.1).trans t0;have y1 := (HB0.out.cell (p := ⟨g, k * 5 + 1, none⟩) hT.1).trans t1;have hk' : (k : Int) < (n : Int) := by omega
  have hk0 : (0 : Int) <= (k : Int) := by omega
  have HL : Hid (k < L.length) := by unfold Hid; omega
  obtain ⟨K, hK⟩ : ∃ K, (tkth L k).k = K := ⟨_, rfl⟩;obtain ⟨X, hX⟩ : ∃ X, (tkth L k).txt = X := ⟨_, rfl⟩;rw [hK] at y0;rw [hX] at y1;have HR : Hid (isR L k s = (decide (3 <= K) && (X.toList == s.toList))) := by unfold Hid isR; rw [hK, hX, decide_eq_true HL.out, Bool.true_and]
  clear t0 t1 hT hn HL hK hX
  by_cases h3 : 3 <= K
  ·cases hq : (X.toList == s.toList)
   ·have HR2 : Hid (isR L k s = false) := by unfold Hid; rw [HR.out, hq]; simp
    go_enter Tryz.func54, Tryz.ntmps54
    go_wp2_with fail
    go_ret;exact ⟨congrArg (fun b => Ending.returned (.bool b)) HR2.out.symm, HB0.out⟩
   ·have HR2 : Hid (isR L k s = true) := by unfold Hid; rw [HR.out, hq]; simp [h3]
    go_enter Tryz.func54, Tryz.ntmps54
    go_wp2_with fail
    go_ret;exact ⟨congrArg (fun b => Ending.returned (.bool b)) HR2.out.symm, HB0.out⟩
  ·have h3' : decide ((3 : Int) <= K) = false := dEf h3;have HR2 : Hid (isR L k s = false) := by unfold Hid; rw [HR.out, h3']; simp
   go_enter Tryz.func54, Tryz.ntmps54
   go_wp2_with fail
   go_ret;exact ⟨congrArg (fun b => Ending.returned (.bool b)) HR2.out.symm, HB0.out⟩
 ·have hk' : ¬ (k : Int) < (n : Int) := by omega
  have HR2 : Hid (isR L k s = false) := by unfold Hid isR; rw [dEf (by omega)]; rfl
  clear hT hn
  go_enter Tryz.func54, Tryz.ntmps54
  go_wp2_with fail
  go_ret;exact ⟨congrArg (fun b => Ending.returned (.bool b)) HR2.out.symm, HB0.out⟩
def rdL (x : Ex) (a : Option Addr) (c k : Nat) : List Value := [.int .i64 x.k, .int .i64 x.n, .string x.s, .slice a x.m c, .int .i64 k, .int .i64 0, .int .i64 0]
def rdV (x : Ex) (a : Option Addr) (c k : Nat) : Value := .agg #[.int .i64 x.k, .int .i64 x.n, .string x.s, .slice a x.m c, .int .i64 k, .int .i64 0, .int .i64 0]
def rd0 : List Value := [.int .i64 0, .int .i64 0, .string ⟨#[]⟩, .slice none 0 0, .int .i64 0, .int .i64 0, .int .i64 0]
def RdIs (w0 : World) (P : Nat -> Prop) (e : Ending) (w' : World) (x : Ex) (k : Nat) : Prop := ∃ a c, e = .returned (rdV x a c k) /\ KidsP w' P x a /\ Below w0.heap.size w0 w'
theorem Bxs.made_at (w : World) {g : Nat} (hg : g = w.heap.size) (vs : List Value) (T : TypeId) : Bxs (w.alloc (.cells vs.toArray T)) g vs := by rw [hg]; exact Bxs.made w vs T
theorem Bxs.at_ {w : World} {g : Nat} {vs : List Value} (h : Bxs w g vs) (i : Nat) {v : Value} (hv : vs[i]? = some v) : w.cell? ⟨g, i, none⟩ = some v := (h i v hv).1
theorem Bxs.set {w : World} {g : Nat} {vs : List Value} (h : Bxs w g vs) (i : Nat) (v : Value) : Bxs (w.setCell ⟨g, i, none⟩ v) g (vs.set i v) := by
 intro j u hu;rw [List.getElem?_set] at hu
 split at hu
 ·rename_i e
  subst e
  split at hu
  ·rename_i hl
   injection hu with hu
   subst hu;obtain ⟨a, b⟩ := h i _ (List.getElem?_eq_getElem hl);exact ⟨World.cell?_setCell_same _ _ _ a, by rw [World.frozen?_setCell]; exact b⟩
  ·cases hu
 ·rename_i e
  obtain ⟨a, b⟩ := h j u hu;exact ⟨by rw [World.cell?_setCell_other (h := fun q => e (by injection q))]; exact a, by rw [World.frozen?_setCell]; exact b⟩
theorem Bxs.far {w : World} {g b i : Nat} {vs : List Value} (h : Bxs w g vs) (hb : b ≠ g) (v : Value) : Bxs (w.setCell ⟨b, i, none⟩ v) g vs := h.to (Below.heap_setCell w ⟨b, i, none⟩ v g (fun e => hb e.symm))
theorem Bxs.pair {w : World} {g : Nat} {a b : Value} (H : Bxs w g [a, b]) : (w.cell? ⟨g, 0, none⟩ = some a /\ w.cell? ⟨g, 1, none⟩ = some b) /\ (w.frozen? ⟨g, 0, none⟩ = false /\ w.frozen? ⟨g, 1, none⟩ = false) := ⟨⟨(H 0 a rfl).1, (H 1 b rfl).1⟩, (H 0 a rfl).2, (H 1 b rfl).2⟩
theorem Bxs.seven {w : World} {g : Nat} {a b c d e f h : Value} (H : Bxs w g [a, b, c, d, e, f, h]) : (w.cell? ⟨g, 0, none⟩ = some a /\ w.cell? ⟨g, 1, none⟩ = some b /\ w.cell? ⟨g, 2, none⟩ = some c /\ w.cell? ⟨g, 3, none⟩ = some d /\ w.cell? ⟨g, 4, none⟩ = some e /\ w.cell? ⟨g, 5, none⟩ = some f /\ w.cell? ⟨g, 6, none⟩ = some h) /\ (w.frozen? ⟨g, 0, none⟩ = false /\ w.frozen? ⟨g, 1, none⟩ = false /\ w.frozen? ⟨g, 2, none⟩ = false /\ w.frozen? ⟨g, 3, none⟩ = false /\ w.frozen? ⟨g, 4, none⟩ = false /\ w.frozen? ⟨g, 5, none⟩ = false /\ w.frozen? ⟨g, 6, none⟩ = false) :=
 ⟨⟨(H 0 a rfl).1, (H 1 b rfl).1, (H 2 c rfl).1, (H 3 d rfl).1, (H 4 e rfl).1, (H 5 f rfl).1, (H 6 h rfl).1⟩, (H 0 a rfl).2, (H 1 b rfl).2, (H 2 c rfl).2, (H 3 d rfl).2, (H 4 e rfl).2, (H 5 f rfl).2, (H 6 h rfl).2⟩
theorem putL_below {B : Nat} {a w : World} {g : Nat} (h : Below B a w) (hg : B <= g) (us : List Value) : Below B a (putL w g 0 us) :=
 ⟨(putL_rest g us 0 w).1.trans h.os, (putL_rest g us 0 w).2.1.trans h.tape, (putL_rest g us 0 w).2.2.trans h.output, by rw [putL_size]; exact h.size, fun b hb => (putL_block g (by omega) us 0 w).trans (h.block b hb)⟩
theorem must_ref (L : List Tk) (g n c : Nat) (z : Int) (x : Ex) (a : Option Addr) (cx k : Nat) (s : ByteArray) (w : World) (hT : TAt w g L) (hn : L.length = n) (hk : k <= 10000) (hs : isR L k s = true) :
 Calls Tryz.prog 57 #[tksV g n c z, rdV x a cx k, .string s] w fun e w' => e = .returned (rdV x a cx (k + 1)) /\ Below w.heap.size w w' := by
 have HB1 := Hd (kbelow_box w (.cells #[.slice (some ⟨g, 0, none⟩) n c, .int .i64 z] 118));have HB2 := Hd (HB1.out.alloc (by simp) (.cells #[.int .i64 x.k, .int .i64 x.n, .string x.s, .slice a x.m cx, .int .i64 k, .int .i64 0, .int .i64 0] 122));have HB3 := Hd (HB2.out.alloc (by simp; omega) (.cells #[.int .i64 0, .int .i64 0, .string ⟨#[]⟩, .slice none 0 0, .int .i64 0, .int .i64 0, .int .i64 0] 122));have HR0 := Hd ((Bxs.made_at (w.alloc (.cells #[.slice (some ⟨g, 0, none⟩) n c, .int .i64 z] 118)) (g := w.heap.size + 1) (by simp) (rdL x a cx k) 122).below (kbelow_box _ (.cells #[.int .i64 0, .int .i64 0, .string ⟨#[]⟩, .slice none 0 0, .int .i64 0, .int .i64 0, .int .i64 0] 122)) (by simp));have HZ0 := Hd (Bxs.made_at ((w.alloc (.cells #[.slice (some ⟨g, 0, none⟩) n c, .int .i64 z] 118)).alloc (.cells #[.int .i64 x.k, .int .i64 x.n, .string x.s, .slice a x.m cx, .int .i64 k, .int .i64 0, .int .i64 0] 122)) (g := w.heap.size + 1 + 1) (by simp) rd0 122);have HI := Hd (is_ref L g n c z k s _ (hT.below HB3.out hT.1) hn);rw [hs] at HI;obtain ⟨k1, hk1⟩ : ∃ k1, k1 = k + 1 := ⟨_, rfl⟩;have hw1 : IntKind.i64.wrap ((k : Int) + 1) = (k1 : Int) := by rw [IntWalk.i64_in _ (by omega)]; omega
 rw [<- hk1];clear hk1;unfold tksV at HI ⊢;unfold rdV;clear hT hn hs
 go_enter Tryz.func57, Tryz.ntmps57
 go_wp2_with fail
 refine HI.out.mono ?_;rintro e w4 ⟨rfl, hb⟩;have HB4 := Hd (HB3.out.trans (hb.mono HB3.out.size));have HR4 := Hd ((HR0.out.below hb (by simp)).set 4 (.int .i64 (k1 : Int)));have HZ4 := Hd ((HZ0.out.below hb (by simp)).far (b := w.heap.size + 1) (i := 4) (by omega) (.int .i64 (k1 : Int)));obtain ⟨⟨r0, r1, r2, r3, r4, r5, r6⟩, f0, f1, f2, f3, f4, f5, f6⟩ := (HR0.out.below hb (by simp)).seven;obtain ⟨⟨z0, z1, z2, z3, z4, z5, z6⟩, g0, g1, g2, g3, g4, g5, g6⟩ := (HZ0.out.below hb (by simp)).seven;clear hb HI HR0 HZ0;unfold rdL at HR4;go_wp2_with fail
 have hD := HZ4.out.put (rdL x a cx k1) rfl;have hE := putL_below (g := w.heap.size + 1 + 1) (HB4.out.setCell (p := ⟨w.heap.size + 1, 4, none⟩) (by simp) (.int .i64 (k1 : Int))) (by omega) (rdL x a cx k1);obtain ⟨⟨e0, e1, e2, e3, e4, e5, e6⟩, -⟩ := hD.seven;simp only [rdL, putL, Nat.zero_add, Nat.reduceAdd] at e0 e1 e2 e3 e4 e5 e6 hE;refine bodyPost_ret (v := rdV x a cx k1) ?_ rfl ?_
 rotate_left
 ·exact ⟨rfl, hE⟩
 simp [results, Tryz.results57, go_sem, e0, e1, e2, e3, e4, e5, e6, rdV]
theorem two_ref (g n c : Nat) (z kk : Int) (x y : Ex) (ax ay : Option Addr) (cx cy k1 k2 : Nat) (w : World) (P : Nat -> Prop) (hP : ∀ b, w.heap.size <= b -> P b) (hx : KidsP w P x ax) (hy : KidsP w P y ay) :
 Calls Tryz.prog 147 #[tksV g n c z, .agg #[.int .i64 kk, .int .i64 0, .string ⟨#[]⟩, .slice none 0 0], rdV x ax cx k1, rdV y ay cy k2] w fun e w' => RdIs w P e w' (twoX kk x y) k2 := by
 unfold tksV rdV;have HX := Hd hx;have HY := Hd hy;clear hx hy
 go_enter Tryz.func147, Tryz.ntmps147
 go_wp2_with fail
 refine bodyPost_ret (v := rdV (twoX kk x y) (some ⟨w.heap.size + 1 + 1 + 1 + 1 + 1, 0, none⟩) 2 k2) (by simp [results, Tryz.results147, go_sem, rdV, twoX, Ex.k, Ex.n, Ex.s, Ex.m] <;> rfl) rfl ⟨_, _, rfl, ?_, ?_⟩
 ·refine KidsP.two (ce := cx) (cf := cy) 50 kk (HX.out.below ?_) (HY.out.below ?_) (by simp) (hP _ (by simp <;> omega))
  all_goals
   repeat (first | exact Below.refl _ _ | refine Below.alloc ?_ (by simp <;> omega) _)
 ·repeat (first | exact Below.refl _ _ | refine Below.alloc ?_ (by simp <;> omega) _)
def RdAt (F : FuncId) (L : List Tk) (g n c : Nat) (z : Int) (k : Nat) (y : Ex) (k' : Nat) : Prop := ∀ w, TAt w g L -> Calls Tryz.prog F #[tksV g n c z, .int .i64 k] w fun e w' => RdIs w (fun b => w.heap.size <= b) e w' y k'
theorem over_ref (L : List Tk) (g n c : Nat) (z kk m : Int) (s : ByteArray) (k k2 : Nat) (y : Ex) (w : World) (hs : s.size <= maxLen) (hT : TAt w g L) (hC : RdAt 176 L g n c z k y k2) :
 Calls Tryz.prog 191 #[tksV g n c z, .agg #[.int .i64 kk, .int .i64 m, .string s, .slice none 0 0], .int .i64 k] w fun e w' => RdIs w (fun b => w.heap.size <= b) e w' (oneX kk m s y) k2 := by
 have HB1 := Hd (kbelow_box w (.cells #[.slice (some ⟨g, 0, none⟩) n c, .int .i64 z] 118));have HB2 := Hd (HB1.out.alloc (by simp) (.cells #[.int .i64 kk, .int .i64 m, .string s, .slice none 0 0] 50));have HB3 := Hd (HB2.out.alloc (by simp; omega) (.cells #[.int .i64 0, .int .i64 0, .string ⟨#[]⟩, .slice none 0 0, .int .i64 0, .int .i64 0, .int .i64 0] 122));have HX0 := Hd ((Bxs.made_at (w.alloc (.cells #[.slice (some ⟨g, 0, none⟩) n c, .int .i64 z] 118)) (g := w.heap.size + 1) (by simp) [.int .i64 kk, .int .i64 m, .string s, .slice none 0 0] 50).below (kbelow_box _ (.cells #[.int .i64 0, .int .i64 0, .string ⟨#[]⟩, .slice none 0 0, .int .i64 0, .int .i64 0, .int .i64 0] 122)) (by simp));have HZ0 := Hd (Bxs.made_at ((w.alloc (.cells #[.slice (some ⟨g, 0, none⟩) n c, .int .i64 z] 118)).alloc (.cells #[.int .i64 kk, .int .i64 m, .string s, .slice none 0 0] 50)) (g := w.heap.size + 1 + 1) (by simp) rd0 122);have HI := Hd (hC _ (hT.below HB3.out hT.1));have HS := Hd hs;unfold tksV at HI ⊢;clear hT hC hs
 go_enter Tryz.func191, Tryz.ntmps191
 go_wp2_with fail
 refine HI.out.mono ?_;rintro e w4 ⟨a, cy, rfl, hk, hb⟩;have HK4 := Hd ((hk.mono (Q := fun b => w.heap.size + 1 + 1 < b) (fun b hb _ => by simp at hb; omega)).put (c := w.heap.size + 1) (fun b hb => by omega) 3 [.slice (some ⟨w4.heap.size + 1, 0, none⟩) 1 1]);have HZ4 := Hd ((HZ0.out.below hb (by simp)).far (b := w.heap.size + 1) (i := 3) (by omega) (.slice (some ⟨w4.heap.size + 1, 0, none⟩) 1 1));have HB4 := Hd (HB3.out.trans (hb.mono HB3.out.size));have hz4 : w.heap.size + 1 + 1 < w4.heap.size := by have := hb.size; simp at this; omega
 have hz3 : w.heap.size + 1 < w4.heap.size := by omega
 have hy4 : w.heap.size + 1 + 1 < w4.heap.size + 1 := by omega
 have hy3 : w.heap.size + 1 < w4.heap.size + 1 := by omega
 obtain ⟨⟨x0, x1, x2, x3⟩, f0, f1, f2, f3⟩ := (HX0.out.below hb (by simp)).four;obtain ⟨⟨z0, z1, z2, z3, z4, z5, z6⟩, g0, g1, g2, g3, g4, g5, g6⟩ := (HZ0.out.below hb (by simp)).seven;clear hb hk HI HX0 HZ0;unfold rdV;go_wp2_with fail
 have hV := HZ4.out.put (rdL (oneX kk m s y) (some ⟨w4.heap.size + 1, 0, none⟩) 1 k2) rfl;have hE := putL_below (g := w.heap.size + 1 + 1) (HB4.out.setCell (p := ⟨w.heap.size + 1, 3, none⟩) (by simp) (.slice (some ⟨w4.heap.size + 1, 0, none⟩) 1 1)) (by omega) (rdL (oneX kk m s y) (some ⟨w4.heap.size + 1, 0, none⟩) 1 k2);have hK := HK4.out.put (c := w.heap.size + 1 + 1) (fun b hb => by omega) 0 (rdL (oneX kk m s y) (some ⟨w4.heap.size + 1, 0, none⟩) 1 k2);have hZ := putL_size (w.heap.size + 1 + 1) (rdL (oneX kk m s y) (some ⟨w4.heap.size + 1, 0, none⟩) 1 k2) 0 (w4.setCell ⟨w.heap.size + 1, 3, none⟩ (.slice (some ⟨w4.heap.size + 1, 0, none⟩) 1 1));simp only [rdL, putL, Nat.zero_add, Nat.reduceAdd, oneX, Ex.k, Ex.n, Ex.s, Ex.m] at hV hE hK hZ;generalize ((((((((w4.setCell ⟨w.heap.size + 1, 3, none⟩ _).setCell _ _).setCell _ _).setCell _ _).setCell _ _).setCell _ _).setCell _ _).setCell _ _) = V at hV hE hK hZ ⊢;have hZ2 : V.heap.size = w4.heap.size := by rw [hZ]; simp
 have hW := (hV.below (kbelow_box V (.cells #[.int .i64 kk, .int .i64 m, .string s, .slice (some ⟨w4.heap.size + 1, 0, none⟩) 1 1, .int .i64 k2, .int .i64 0, .int .i64 0] 122)) (by omega)).below (kbelow_box _ (.cells #[.int .i64 y.k, .int .i64 y.n, .string y.s, .slice a y.m cy] 50)) (by simp; omega);obtain ⟨⟨e0, e1, e2, e3, e4, e5, e6⟩, -⟩ := hW.seven;refine bodyPost_ret (v := .agg #[.int .i64 kk, .int .i64 m, .string s, .slice (some ⟨w4.heap.size + 1, 0, none⟩) 1 1, .int .i64 k2, .int .i64 0, .int .i64 0]) ?_ rfl ?_
 rotate_left
 ·refine ⟨_, _, rfl, ?_, (hE.alloc (by omega) _).alloc (by simp; omega) _⟩;exact KidsP.one (ce := cy) 50 kk m s ((hK.mono (fun b hb _ => by omega)).below (kbelow_box V _)) (by simp [hZ2]) (by simp; omega) HS.out
 simp [results, Tryz.results191, go_sem, e0, e1, e2, e3, e4, e5, e6]
structure PaB (w w' : World) (g n c : Nat) (z : Int) (r : Tk) : Prop where
 bel : Below w.heap.size w w'
 t : Bxs w' w.heap.size [.slice (some ⟨g, 0, none⟩) n c, .int .i64 z]
 o : Bxs w' (w.heap.size + 1) rd0
 k : Bxs w' (w.heap.size + 1 + 1) (tqL r)
 lt : w.heap.size + 1 + 1 < w'.heap.size
theorem PaB.below {w w1 w2 : World} {g n c : Nat} {z : Int} {r : Tk} (h : PaB w w1 g n c z r) (hb : Below w1.heap.size w1 w2) : PaB w w2 g n c z r :=
 have := h.lt
 ⟨h.bel.trans (hb.mono h.bel.size), h.t.below hb (by omega), h.o.below hb (by omega), h.k.below hb (by omega), Nat.lt_of_lt_of_le h.lt hb.size⟩
theorem PaB.made (w : World) (g n c : Nat) (z : Int) (r : Tk) (T U V : TypeId) : PaB w (((w.alloc (.cells #[.slice (some ⟨g, 0, none⟩) n c, .int .i64 z] T)).alloc (.cells #[.int .i64 0, .int .i64 0, .string ⟨#[]⟩, .slice none 0 0, .int .i64 0, .int .i64 0, .int .i64 0] U)).alloc (.cells #[.int .i64 r.k, .string r.txt, .int .i64 r.num, .bool r.pt, .int .i64 r.pos] V)) g n c z r :=
 ⟨((kbelow_box w _).alloc (by simp) _).alloc (by simp <;> omega) _, ((Bxs.made_at w rfl [.slice (some ⟨g, 0, none⟩) n c, .int .i64 z] T).below (kbelow_box _ _) (by simp)).below (kbelow_box _ _) (by simp <;> omega), (Bxs.made_at (w.alloc _) (g := w.heap.size + 1) (by simp) rd0 U).below (kbelow_box _ _) (by simp), Bxs.made_at ((w.alloc _).alloc _) (g := w.heap.size + 1 + 1) (by simp) (tqL r) V, by simp <;> omega⟩
theorem PaB.done {w w' : World} {g n c : Nat} {z : Int} {r : Tk} (h : PaB w w' g n c z r) {x : Ex} {a : Option Addr} (cx k : Nat) (hk : KidsP w' (fun b => w.heap.size + 1 + 1 < b) x a) :
 Bxs (putL w' (w.heap.size + 1) 0 (rdL x a cx k)) (w.heap.size + 1) (rdL x a cx k) /\ KidsP (putL w' (w.heap.size + 1) 0 (rdL x a cx k)) (fun b => w.heap.size <= b) x a /\ Below w.heap.size w (putL w' (w.heap.size + 1) 0 (rdL x a cx k)) :=
 ⟨h.o.put _ rfl, (hk.put (fun b hb => by omega) 0 _).mono fun b hb _ => by omega, putL_below h.bel (by omega) _⟩
def RdF (F : FuncId) (T L : List Tk) (g n c : Nat) (z : Int) (lv : Lv) (f : Nat) : Prop := ∀ k x k', prs T f lv k = some (x, k') -> k < T.length -> RdAt F L g n c z k x k'
theorem namT_is {T : List Tk} {k : Nat} {s : ByteArray} (h : namT T k = some s) : kdT T k = 1 /\ (tkth T k).txt = s := by
 unfold namT at h
 split at h
 ·rename_i h1
  injection h with h
  exact ⟨h1, h⟩
 ·cases h
theorem part_a {s0 : ByteArray} {L T : List Tk} {g n c : Nat} {z : Int} {f : Nat} (hRK : RkL s0 L T) (hn : L.length = n) (hA : RdF 176 T L g n c z .pa f) (hE : RdF 58 T L g n c z .ex f) (k : Nat) (x : Ex) (k' : Nat) (h : prs T (f + 1) .pa k = some (x, k')) (hk : k < T.length) (w : World) (hT : TAt w g L) (c1 : kdT T k = 2) :
 Calls Tryz.prog 176 #[tksV g n c z, .int .i64 k] w fun e w' => RdIs w (fun b => w.heap.size <= b) e w' x k' := by
 have hkl : k < L.length := by
  by_cases e : k < L.length
  ·exact e
  ·have hk2 : k = L.length := by have := hRK.len; omega
   rw [prs_pa] at h;subst hk2;have he := hRK.last;have i0 : ∀ l, l ≠ [] -> isT T L.length l = false := fun l hl => by
    by_cases q : isT T L.length l = true
    ·have := hRK.ok.text hk q hl;have := hRK.len;omega
    ·simpa using q
   have j0 : kdT T L.length = 0 := by unfold kdT; rw [he]; rfl
   simp [j0, i0] at h
 have HRK := Hd hRK;have HN := Hd hn;have HA := Hd hA;have HE := Hd hE;have HT := Hd hT;have hlen := hRK.ok.long;have hTl := hRK.len;have HKD : Hid (kdT T k = (tkth L k).k) := by unfold Hid kdT; rw [hRK.at_ hkl]
 have HNM : Hid (nmT T k = (tkth L k).num) := by unfold Hid nmT; rw [hRK.at_ hkl]
 have HTX : Hid ((tkth T k).txt = (tkth L k).txt) := by unfold Hid; rw [hRK.at_ hkl]
 have HSZ := Hd (hRK.ok.size k hk);have hm := hT.2 k hkl;have HIT : Hid (∀ l b, isT T k l = b -> ((tkth L k).txt.toList == l) = b) := fun l b q => by
  have := isT_list q;rw [hRK.at_ hkl] at this;exact this
 rw [prs_pa] at h;have HH := Hd h;obtain ⟨r, hr⟩ : ∃ r, tkth L k = r := ⟨_, rfl⟩;rw [hr] at HKD HNM HTX HIT hm;rw [HTX.out] at HSZ;obtain ⟨rk, rt, rn, rp, ro⟩ := r
 dsimp only at HKD HNM HTX HIT hm HSZ
 have HBW : Hid (Below w.heap.size w ((w.alloc (.cells #[.slice (some ⟨g, 0, none⟩) n c, .int .i64 z] 118)).alloc (.cells #[.int .i64 0, .int .i64 0, .string ⟨#[]⟩, .slice none 0 0, .int .i64 0, .int .i64 0, .int .i64 0] 122))) := Hd ((kbelow_box w _).alloc (by simp) _);obtain ⟨y0, y1, y2, y3, y4⟩ := hm.below HBW.out hT.1;have HP0 := Hd (PaB.made w g n c z ⟨rk, rt, rn, rp, ro⟩ 118 122 94);have HK0 : Hid (rk ≠ 0) := by
  have h9 := toks_good hRK.sz hRK.tk _ (tkth_mem hkl);rw [hr] at h9;have := h9.k;unfold Hid;intro e
  dsimp only at this
  omega
 have hk' : (k : Int) < (n : Int) := by omega
 have hk'' : ¬ (n : Int) <= (k : Int) := by omega
 obtain ⟨k1, hk1⟩ : ∃ k1, k1 = k + 1 := ⟨_, rfl⟩;obtain ⟨k2, hk2⟩ : ∃ k2, k2 = k + 2 := ⟨_, rfl⟩;obtain ⟨k3, hk3⟩ : ∃ k3, k3 = k + 3 := ⟨_, rfl⟩;have w1 : IntKind.i64.wrap ((k : Int) + 1) = (k1 : Int) := by rw [IntWalk.i64_in _ (by omega)]; omega
 have w2 : IntKind.i64.wrap ((k : Int) + 2) = (k2 : Int) := by rw [IntWalk.i64_in _ (by omega)]; omega
 have w3 : IntKind.i64.wrap ((k : Int) + 3) = (k3 : Int) := by rw [IntWalk.i64_in _ (by omega)]; omega
 rw [<- hk1, <- hk2, <- hk3] at HH;have HK := Hd (And.intro hk1 (And.intro hk2 hk3));have HKL := Hd (And.intro hk (And.intro hkl hTl));clear h hRK hn hA hE hT hm hr hk hkl hlen hTl hk1 hk2 hk3 HBW;unfold tksV;have h := HH.out;rw [if_pos c1] at h;have hkk : (rk == 2) = true := by rw [HKD.out] at c1; simp [c1]
 have hkk1 : (rk == 1) = false := by rw [HKD.out] at c1; simp [c1]
 clear c1
 by_cases c2 : isT T k1 [37] = true
 ·rw [if_pos c2] at h;have hi := isR_yes HRK.out (by have := HK.out.1; have := HKL.out; omega) c2 (by decide +kernel) (by decide)
  split at h
  ·cases h
  ·rename_i c3
   split at h
   ·rename_i c4
    obtain ⟨⟨y, ky⟩, h5, h⟩ := Option.bind_eq_some_iff.1 h;have hj := isR_yes HRK.out (by have := HRK.out.ok.text (k := k1) (by have := HK.out.1; have := HKL.out; omega) c2 (by simp); have := HK.out; omega) c4 (by decide +kernel) (by decide);have HOV := Hd (HA.out k3 y ky h5 (by have := HRK.out.ok.text (k := k2) (by have := HRK.out.ok.text (k := k1) (by have := HK.out.1; have := HKL.out; omega) c2 (by simp); have := HK.out; omega) c4 (by simp); have := HK.out; omega));have hn3 : ¬ (1000000 : Int) < rn := by rw [<- HNM.out]; exact c3
    have HSS : Hid ((⟨#[]⟩ : ByteArray).size <= maxLen) := by unfold Hid maxLen; exact Nat.zero_le _
    injection h with h
    injection h with e1 e2
    subst e1 e2;rw [HNM.out];clear c2 c3 c4 h5 HA HE HH
    go_enter Tryz.func176, Tryz.ntmps176
    go_wp2_with fail
    refine (is_ref L g n c z k1 ⟨#[37]⟩ _ (HT.out.below HP0.out.bel HT.out.1) HN.out).mono ?_;rintro e w4 ⟨rfl, hb⟩;rw [hi];have HP4 := Hd (HP0.out.below hb);clear hb;obtain ⟨⟨t0, t1⟩, ft0, ft1⟩ := HP4.out.t.pair;obtain ⟨⟨o0, o1, o2, o3, o4, o5, o6⟩, fo0, fo1, fo2, fo3, fo4, fo5, fo6⟩ := HP4.out.o.seven;obtain ⟨⟨q0, q1, q2, q3, q4⟩, fq0, fq1, fq2, fq3, fq4⟩ := HP4.out.k.five;go_wp2_with fail
    refine (is_ref L g n c z k2 ⟨#[111, 102]⟩ _ (HT.out.below HP4.out.bel HT.out.1) HN.out).mono ?_;rintro e w5 ⟨rfl, hb⟩;rw [hj];have HP5 := Hd (HP4.out.below hb);clear hb;clear t0 t1 ft0 ft1 o0 o1 o2 o3 o4 o5 o6 fo0 fo1 fo2 fo3 fo4 fo5 fo6 q0 q1 q2 q3 q4 fq0 fq1 fq2 fq3 fq4;obtain ⟨⟨t0, t1⟩, ft0, ft1⟩ := HP5.out.t.pair;obtain ⟨⟨o0, o1, o2, o3, o4, o5, o6⟩, fo0, fo1, fo2, fo3, fo4, fo5, fo6⟩ := HP5.out.o.seven;obtain ⟨⟨q0, q1, q2, q3, q4⟩, fq0, fq1, fq2, fq3, fq4⟩ := HP5.out.k.five;go_wp2_with fail
    have HPP := HP5;refine (over_ref L g n c z 4 rn ⟨#[]⟩ k3 _ y _ HSS.out (HT.out.below HPP.out.bel HT.out.1) HOV.out).mono ?_;rintro e w6 ⟨a6, c6, rfl, hk6, hb⟩;have HP6 := Hd (HP5.out.below hb);have HK6 := Hd (hk6.mono (Q := fun b => w.heap.size + 1 + 1 < b) (fun b hb _ => by have := HP5.out.lt; omega));clear hb hk6;clear t0 t1 ft0 ft1 o0 o1 o2 o3 o4 o5 o6 fo0 fo1 fo2 fo3 fo4 fo5 fo6 q0 q1 q2 q3 q4 fq0 fq1 fq2 fq3 fq4;obtain ⟨⟨t0, t1⟩, ft0, ft1⟩ := HP6.out.t.pair;obtain ⟨⟨o0, o1, o2, o3, o4, o5, o6⟩, fo0, fo1, fo2, fo3, fo4, fo5, fo6⟩ := HP6.out.o.seven;obtain ⟨⟨q0, q1, q2, q3, q4⟩, fq0, fq1, fq2, fq3, fq4⟩ := HP6.out.k.five;unfold rdV;go_wp2_with fail
    have hD := HP6.out.done (x := oneX 4 rn noT y) (a := a6) c6 ky (HK6.out);obtain ⟨hV, hK, hE⟩ := hD;obtain ⟨⟨e0, e1, e2, e3, e4, e5, e6⟩, -⟩ := hV.seven;simp only [rdL, putL, Nat.zero_add, Nat.reduceAdd, leafX, oneX, twoX, noT, Ex.k, Ex.n, Ex.s, Ex.m] at e0 e1 e2 e3 e4 e5 e6;refine bodyPost_ret (v := rdV (oneX 4 rn noT y) (a6) c6 ky) ?_ rfl ⟨_, _, rfl, hK, hE⟩;simp [results, Tryz.results176, go_sem, e0, e1, e2, e3, e4, e5, e6, rdV, leafX, oneX, twoX, noT, Ex.k, Ex.n, Ex.s, Ex.m]
   ·cases h
 ·rw [if_neg c2] at h;have hi := isR_no HRK.out c2;injection h with h
  injection h with e1 e2
  subst e1 e2;rw [HNM.out];clear c2 HA HE HH
  go_enter Tryz.func176, Tryz.ntmps176
  go_wp2_with fail
  refine (is_ref L g n c z k1 ⟨#[37]⟩ _ (HT.out.below HP0.out.bel HT.out.1) HN.out).mono ?_;rintro e w4 ⟨rfl, hb⟩;rw [hi];have HP4 := Hd (HP0.out.below hb);clear hb;obtain ⟨⟨t0, t1⟩, ft0, ft1⟩ := HP4.out.t.pair;obtain ⟨⟨o0, o1, o2, o3, o4, o5, o6⟩, fo0, fo1, fo2, fo3, fo4, fo5, fo6⟩ := HP4.out.o.seven;obtain ⟨⟨q0, q1, q2, q3, q4⟩, fq0, fq1, fq2, fq3, fq4⟩ := HP4.out.k.five;go_wp2_with fail
  have hD := HP4.out.done (x := leafX 1 rn noT) (a := none) 0 k1 (KidsP.leaf _ _ _ _ _ _ (by unfold noT maxLen; exact Nat.zero_le _));obtain ⟨hV, hK, hE⟩ := hD;obtain ⟨⟨e0, e1, e2, e3, e4, e5, e6⟩, -⟩ := hV.seven;simp only [rdL, putL, Nat.zero_add, Nat.reduceAdd, leafX, oneX, twoX, noT, Ex.k, Ex.n, Ex.s, Ex.m] at e0 e1 e2 e3 e4 e5 e6;refine bodyPost_ret (v := rdV (leafX 1 rn noT) (none) 0 k1) ?_ rfl ⟨_, _, rfl, hK, hE⟩;simp [results, Tryz.results176, go_sem, e0, e1, e2, e3, e4, e5, e6, rdV, leafX, oneX, twoX, noT, Ex.k, Ex.n, Ex.s, Ex.m]
theorem part_b {s0 : ByteArray} {L T : List Tk} {g n c : Nat} {z : Int} {f : Nat} (hRK : RkL s0 L T) (hn : L.length = n) (hA : RdF 176 T L g n c z .pa f) (hE : RdF 58 T L g n c z .ex f) (k : Nat) (x : Ex) (k' : Nat) (h : prs T (f + 1) .pa k = some (x, k')) (hk : k < T.length) (w : World) (hT : TAt w g L) (c1 : ¬ kdT T k = 2) (hb : kdT T k = 1 \/ isT T k [121, 101, 97, 114] = true \/ isT T k [116, 97, 98, 108, 101] = true \/ isT T k [45] = true) :
 Calls Tryz.prog 176 #[tksV g n c z, .int .i64 k] w fun e w' => RdIs w (fun b => w.heap.size <= b) e w' x k' := by
 have HBB := Hd hb;clear hb;have hkl : k < L.length := by
  by_cases e : k < L.length
  ·exact e
  ·have hk2 : k = L.length := by have := hRK.len; omega
   rw [prs_pa] at h;subst hk2;have he := hRK.last;have i0 : ∀ l, l ≠ [] -> isT T L.length l = false := fun l hl => by
    by_cases q : isT T L.length l = true
    ·have := hRK.ok.text hk q hl;have := hRK.len;omega
    ·simpa using q
   have j0 : kdT T L.length = 0 := by unfold kdT; rw [he]; rfl
   simp [j0, i0] at h
 have HRK := Hd hRK;have HN := Hd hn;have HA := Hd hA;have HE := Hd hE;have HT := Hd hT;have hlen := hRK.ok.long;have hTl := hRK.len;have HKD : Hid (kdT T k = (tkth L k).k) := by unfold Hid kdT; rw [hRK.at_ hkl]
 have HNM : Hid (nmT T k = (tkth L k).num) := by unfold Hid nmT; rw [hRK.at_ hkl]
 have HTX : Hid ((tkth T k).txt = (tkth L k).txt) := by unfold Hid; rw [hRK.at_ hkl]
 have HSZ := Hd (hRK.ok.size k hk);have hm := hT.2 k hkl;have HIT : Hid (∀ l b, isT T k l = b -> ((tkth L k).txt.toList == l) = b) := fun l b q => by
  have := isT_list q;rw [hRK.at_ hkl] at this;exact this
 rw [prs_pa] at h;have HH := Hd h;obtain ⟨r, hr⟩ : ∃ r, tkth L k = r := ⟨_, rfl⟩;rw [hr] at HKD HNM HTX HIT hm;rw [HTX.out] at HSZ;obtain ⟨rk, rt, rn, rp, ro⟩ := r
 dsimp only at HKD HNM HTX HIT hm HSZ
 have HBW : Hid (Below w.heap.size w ((w.alloc (.cells #[.slice (some ⟨g, 0, none⟩) n c, .int .i64 z] 118)).alloc (.cells #[.int .i64 0, .int .i64 0, .string ⟨#[]⟩, .slice none 0 0, .int .i64 0, .int .i64 0, .int .i64 0] 122))) := Hd ((kbelow_box w _).alloc (by simp) _);obtain ⟨y0, y1, y2, y3, y4⟩ := hm.below HBW.out hT.1;have HP0 := Hd (PaB.made w g n c z ⟨rk, rt, rn, rp, ro⟩ 118 122 94);have HK0 : Hid (rk ≠ 0) := by
  have h9 := toks_good hRK.sz hRK.tk _ (tkth_mem hkl);rw [hr] at h9;have := h9.k;unfold Hid;intro e
  dsimp only at this
  omega
 have hk' : (k : Int) < (n : Int) := by omega
 have hk'' : ¬ (n : Int) <= (k : Int) := by omega
 obtain ⟨k1, hk1⟩ : ∃ k1, k1 = k + 1 := ⟨_, rfl⟩;obtain ⟨k2, hk2⟩ : ∃ k2, k2 = k + 2 := ⟨_, rfl⟩;obtain ⟨k3, hk3⟩ : ∃ k3, k3 = k + 3 := ⟨_, rfl⟩;have w1 : IntKind.i64.wrap ((k : Int) + 1) = (k1 : Int) := by rw [IntWalk.i64_in _ (by omega)]; omega
 have w2 : IntKind.i64.wrap ((k : Int) + 2) = (k2 : Int) := by rw [IntWalk.i64_in _ (by omega)]; omega
 have w3 : IntKind.i64.wrap ((k : Int) + 3) = (k3 : Int) := by rw [IntWalk.i64_in _ (by omega)]; omega
 rw [<- hk1, <- hk2, <- hk3] at HH;have HK := Hd (And.intro hk1 (And.intro hk2 hk3));have HKL := Hd (And.intro hk (And.intro hkl hTl));clear h hRK hn hA hE hT hm hr hk hkl hlen hTl hk1 hk2 hk3 HBW;unfold tksV;rw [if_neg c1] at HH;have hkk : (rk == 2) = false := by rw [HKD.out] at c1; simp [c1]
 clear c1
 by_cases c2 : kdT T k = 1
 ·have h := HH.out;rw [if_pos c2] at h;have hkk1 : (rk == 1) = true := by rw [HKD.out] at c2; simp [c2]
  injection h with h
  injection h with e1 e2
  subst e1 e2;rw [HTX.out];clear c2 HA HE HH
  go_enter Tryz.func176, Tryz.ntmps176
  go_wp2_with fail
  refine bodyPost_ret (v := rdV (leafX 2 0 rt) none 0 k1) (by simp [results, Tryz.results176, go_sem, rdV, leafX, Ex.k, Ex.n, Ex.s, Ex.m] <;> rfl) rfl ⟨_, _, rfl, KidsP.leaf _ _ _ _ _ _ (by have := HSZ.out; unfold maxLen; omega), ?_⟩
  repeat (first | exact Below.refl _ _ | refine Below.alloc ?_ (by simp <;> omega) _)
 rw [if_neg c2] at HH;have hkk1 : (rk == 1) = false := by rw [HKD.out] at c2; simp [c2]
 clear c2
 by_cases c3 : isT T k [121, 101, 97, 114] = true
 ·have h := HH.out;rw [if_pos c3] at h;obtain ⟨s, hs, h⟩ := Option.bind_eq_some_iff.1 h;have hq := namT_is hs;have HKN : Hid (k1 < L.length) := by
   have := HRK.out.ok.kind (k := k1) (by have := HK.out; have := HKL.out; have := HRK.out.ok.kind (k := k) HKL.out.1 rfl (by rw [HKD.out]; exact HK0.out); omega) hq.1 (by omega);unfold Hid;have := HKL.out;omega
  have hk1' : (k1 : Int) < (n : Int) := by have := HKN.out; have := HN.out; omega
  have hk1'' : ¬ (n : Int) <= (k1 : Int) := by omega
  have hm1 := (HT.out.2 k1 HKN.out).below HP0.out.bel HT.out.1;obtain ⟨v0, v1, v2, v3, v4⟩ := hm1;have hq1 := hq.1;have hq2 := hq.2;unfold kdT at hq1;rw [HRK.out.at_ HKN.out] at hq1 hq2;rw [hq1] at v0;rw [hq2] at v1;have HTS : Hid ((tkth L k1).txt = s) := hq2;have HSS : Hid (s.size <= maxLen) := by
   have h9 := HRK.out.ok.size k1 (by have := HKN.out; have := HKL.out; omega);rw [HRK.out.at_ HKN.out, hq2] at h9;unfold Hid maxLen;omega
  clear hq hq1 hq2;injection h with h
  injection h with e1 e2
  subst e1 e2;have ht := HIT.out _ _ c3;clear c3 HA HE HH
  go_enter Tryz.func176, Tryz.ntmps176
  go_wp2_with fail
  refine bodyPost_ret (v := rdV (leafX 3 0 s) none 0 k2) (by simp [results, Tryz.results176, go_sem, rdV, leafX, Ex.k, Ex.n, Ex.s, Ex.m] <;> rfl) rfl ⟨_, _, rfl, KidsP.leaf _ _ _ _ _ _ HSS.out, ?_⟩
  repeat (first | exact Below.refl _ _ | refine Below.alloc ?_ (by simp <;> omega) _)
 rw [if_neg c3] at HH;have n3 := HIT.out _ _ (isT_false c3);clear c3
 by_cases c4 : isT T k [116, 97, 98, 108, 101] = true
 ·have h := HH.out;rw [if_pos c4] at h;obtain ⟨s, hs, h⟩ := Option.bind_eq_some_iff.1 h;have hq := namT_is hs;have HKN : Hid (k1 < L.length) := by
   have := HRK.out.ok.kind (k := k1) (by have := HK.out; have := HKL.out; have := HRK.out.ok.kind (k := k) HKL.out.1 rfl (by rw [HKD.out]; exact HK0.out); omega) hq.1 (by omega);unfold Hid;have := HKL.out;omega
  have hk1' : (k1 : Int) < (n : Int) := by have := HKN.out; have := HN.out; omega
  have hk1'' : ¬ (n : Int) <= (k1 : Int) := by omega
  have hm1 := (HT.out.2 k1 HKN.out).below HP0.out.bel HT.out.1;obtain ⟨v0, v1, v2, v3, v4⟩ := hm1;have hq1 := hq.1;have hq2 := hq.2;unfold kdT at hq1;rw [HRK.out.at_ HKN.out] at hq1 hq2;rw [hq1] at v0;rw [hq2] at v1;have HTS : Hid ((tkth L k1).txt = s) := hq2;have HSS : Hid (s.size <= maxLen) := by
   have h9 := HRK.out.ok.size k1 (by have := HKN.out; have := HKL.out; omega);rw [HRK.out.at_ HKN.out, hq2] at h9;unfold Hid maxLen;omega
  clear hq hq1 hq2
  split at h
  ·rename_i c5
   obtain ⟨⟨y, ky⟩, h5, h⟩ := Option.bind_eq_some_iff.1 h;have hk2 : k2 < T.length := by have := HKN.out; have := HK.out; have := HKL.out; omega
   have hj := isR_yes HRK.out hk2 c5 (by decide +kernel) (by decide);have HOV := Hd (HA.out k3 y ky h5 (by have := HRK.out.ok.text hk2 c5 (by simp); have := HK.out; omega));clear hk2;injection h with h
   injection h with e1 e2
   subst e1 e2;have ht := HIT.out _ _ c4;clear c4 c5 h5 HA HE HH
   go_enter Tryz.func176, Tryz.ntmps176
   go_wp2_with fail
   refine (is_ref L g n c z k2 ⟨#[111, 102]⟩ _ (HT.out.below HP0.out.bel HT.out.1) HN.out).mono ?_;rintro e w4 ⟨rfl, hb⟩;rw [hj];have HP4 := Hd (HP0.out.below hb);clear hb;obtain ⟨⟨t0, t1⟩, ft0, ft1⟩ := HP4.out.t.pair;obtain ⟨⟨o0, o1, o2, o3, o4, o5, o6⟩, fo0, fo1, fo2, fo3, fo4, fo5, fo6⟩ := HP4.out.o.seven;obtain ⟨⟨q0, q1, q2, q3, q4⟩, fq0, fq1, fq2, fq3, fq4⟩ := HP4.out.k.five;have HT4 := Hd (HT.out.below HP4.out.bel HT.out.1);have v1' := (HT4.out.2 k1 HKN.out).2.1;rw [HTS.out] at v1';clear v0 v1 v2 v3 v4;have hgl : g < w.heap.size := HT.out.1;have hne1 : w.heap.size + 1 ≠ g := by omega
   have hne2 : g ≠ w.heap.size + 1 := by omega
   go_wp2_with fail
   go_region_held (fun w' => w'.cell? ⟨w.heap.size, 0, none⟩ = some (.slice (some ⟨g, 0, none⟩) n c) /\ w'.cell? ⟨w.heap.size, 1, none⟩ = some (.int .i64 z) /\ w'.cell? ⟨g, k1 * 5 + 1, none⟩ = some (.string s)) (go_keep)
    (first
     | (go_at_call 191; refine (over_ref L g n c z 5 0 s k3 _ y _ HSS.out (HT4.out.below (kbelow_dN (Below.refl _ _) _) HT4.out.1) HOV.out).mono ?_
        rintro e w6 ⟨a6, c6, rfl, hk6, hb⟩;have HP6 := Hd (HP4.out.below (Below.trans (kbelow_dN (Below.refl w4.heap.size w4) 1) hb));have HK6 := Hd (hk6.mono (Q := fun b => w.heap.size + 1 + 1 < b) (fun b hb _ => by have := HP4.out.lt; have hb' : w4.heap.size <= b := hb; omega));have v6 := (hb.cell (p := ⟨g, k1 * 5 + 1, none⟩) HT4.out.1).trans v1';clear hb hk6 v1';clear t0 t1 ft0 ft1 o0 o1 o2 o3 o4 o5 o6 fo0 fo1 fo2 fo3 fo4 fo5 fo6 q0 q1 q2 q3 q4 fq0 fq1 fq2 fq3 fq4;obtain ⟨⟨t0, t1⟩, ft0, ft1⟩ := HP6.out.t.pair;obtain ⟨⟨o0, o1, o2, o3, o4, o5, o6⟩, fo0, fo1, fo2, fo3, fo4, fo5, fo6⟩ := HP6.out.o.seven;obtain ⟨⟨q0, q1, q2, q3, q4⟩, fq0, fq1, fq2, fq3, fq4⟩ := HP6.out.k.five;unfold rdV))
   go_wp2_with fail
   have hD := HP6.out.done (x := oneX 5 0 s y) (a := a6) c6 ky (HK6.out);obtain ⟨hV, hK, hE⟩ := hD;obtain ⟨⟨e0, e1, e2, e3, e4, e5, e6⟩, -⟩ := hV.seven;simp only [rdL, putL, Nat.zero_add, Nat.reduceAdd, leafX, oneX, twoX, noT, Ex.k, Ex.n, Ex.s, Ex.m] at e0 e1 e2 e3 e4 e5 e6;refine bodyPost_ret (v := rdV (oneX 5 0 s y) (a6) c6 ky) ?_ rfl ⟨_, _, rfl, hK, hE⟩;simp [results, Tryz.results176, go_sem, e0, e1, e2, e3, e4, e5, e6, rdV, leafX, oneX, twoX, noT, Ex.k, Ex.n, Ex.s, Ex.m]
  ·cases h
 rw [if_neg c4] at HH;have n4 := HIT.out _ _ (isT_false c4);clear c4
 by_cases c5 : isT T k [45] = true
 ·have h := HH.out;rw [if_pos c5] at h;obtain ⟨⟨y, ky⟩, h5, h⟩ := Option.bind_eq_some_iff.1 h;have HOV := Hd (HA.out k1 y ky h5 (by have := HRK.out.ok.text HKL.out.1 c5 (by simp); have := HK.out; omega));have HSS : Hid ((⟨#[]⟩ : ByteArray).size <= maxLen) := by unfold Hid maxLen; exact Nat.zero_le _
  have HPP := HP0;injection h with h
  injection h with e1 e2
  subst e1 e2;have ht := HIT.out _ _ c5;clear c5 h5 HA HE HH
  go_enter Tryz.func176, Tryz.ntmps176
  go_wp2_with fail
  refine (over_ref L g n c z 6 0 ⟨#[]⟩ k1 _ y _ HSS.out (HT.out.below HPP.out.bel HT.out.1) HOV.out).mono ?_;rintro e w6 ⟨a6, c6, rfl, hk6, hb⟩;have HP6 := Hd (HP0.out.below hb);have HK6 := Hd (hk6.mono (Q := fun b => w.heap.size + 1 + 1 < b) (fun b hb _ => by have := HP0.out.lt; omega));clear hb hk6;obtain ⟨⟨t0, t1⟩, ft0, ft1⟩ := HP6.out.t.pair;obtain ⟨⟨o0, o1, o2, o3, o4, o5, o6⟩, fo0, fo1, fo2, fo3, fo4, fo5, fo6⟩ := HP6.out.o.seven;obtain ⟨⟨q0, q1, q2, q3, q4⟩, fq0, fq1, fq2, fq3, fq4⟩ := HP6.out.k.five;unfold rdV;go_wp2_with fail
  have hD := HP6.out.done (x := oneX 6 0 noT y) (a := a6) c6 ky (HK6.out);obtain ⟨hV, hK, hE⟩ := hD;obtain ⟨⟨e0, e1, e2, e3, e4, e5, e6⟩, -⟩ := hV.seven;simp only [rdL, putL, Nat.zero_add, Nat.reduceAdd, leafX, oneX, twoX, noT, Ex.k, Ex.n, Ex.s, Ex.m] at e0 e1 e2 e3 e4 e5 e6;refine bodyPost_ret (v := rdV (oneX 6 0 noT y) (a6) c6 ky) ?_ rfl ⟨_, _, rfl, hK, hE⟩;simp [results, Tryz.results176, go_sem, e0, e1, e2, e3, e4, e5, e6, rdV, leafX, oneX, twoX, noT, Ex.k, Ex.n, Ex.s, Ex.m]
 rcases HBB.out with q | q | q | q
 ·rw [HKD.out] at q; simp [q] at hkk1
 ·rw [HIT.out _ _ q] at n3; cases n3
 ·rw [HIT.out _ _ q] at n4; cases n4
 ·exact absurd q c5
theorem part_c {s0 : ByteArray} {L T : List Tk} {g n c : Nat} {z : Int} {f : Nat} (hRK : RkL s0 L T) (hn : L.length = n) (hA : RdF 176 T L g n c z .pa f) (hE : RdF 58 T L g n c z .ex f) (k : Nat) (x : Ex) (k' : Nat) (h : prs T (f + 1) .pa k = some (x, k')) (hk : k < T.length) (w : World) (hT : TAt w g L) (c1 : ¬ kdT T k = 2) (c2 : ¬ kdT T k = 1) (c3 : ¬ isT T k [121, 101, 97, 114] = true) (c4 : ¬ isT T k [116, 97, 98, 108, 101] = true) (c5 : ¬ isT T k [45] = true) (c6 : ¬ isT T k [109, 105, 110] = true) (c7 : ¬ isT T k [109, 97, 120] = true) (c8 : isT T k [40] = true) :
 Calls Tryz.prog 176 #[tksV g n c z, .int .i64 k] w fun e w' => RdIs w (fun b => w.heap.size <= b) e w' x k' := by
 have HD := Hd (And.intro c6 (And.intro c7 c8));clear c6 c7 c8;have HC := Hd (And.intro c1 (And.intro c2 (And.intro c3 (And.intro c4 c5))));clear c1 c2 c3 c4 c5;have hkl : k < L.length := by
  by_cases e : k < L.length
  ·exact e
  ·have hk2 : k = L.length := by have := hRK.len; omega
   rw [prs_pa] at h;subst hk2;have he := hRK.last;have i0 : ∀ l, l ≠ [] -> isT T L.length l = false := fun l hl => by
    by_cases q : isT T L.length l = true
    ·have := hRK.ok.text hk q hl;have := hRK.len;omega
    ·simpa using q
   have j0 : kdT T L.length = 0 := by unfold kdT; rw [he]; rfl
   simp [j0, i0] at h
 have HRK := Hd hRK;have HN := Hd hn;have HA := Hd hA;have HE := Hd hE;have HT := Hd hT;have hlen := hRK.ok.long;have hTl := hRK.len;have HKD : Hid (kdT T k = (tkth L k).k) := by unfold Hid kdT; rw [hRK.at_ hkl]
 have HNM : Hid (nmT T k = (tkth L k).num) := by unfold Hid nmT; rw [hRK.at_ hkl]
 have HTX : Hid ((tkth T k).txt = (tkth L k).txt) := by unfold Hid; rw [hRK.at_ hkl]
 have HSZ := Hd (hRK.ok.size k hk);have hm := hT.2 k hkl;have HIT : Hid (∀ l b, isT T k l = b -> ((tkth L k).txt.toList == l) = b) := fun l b q => by
  have := isT_list q;rw [hRK.at_ hkl] at this;exact this
 rw [prs_pa] at h;have HH := Hd h;obtain ⟨r, hr⟩ : ∃ r, tkth L k = r := ⟨_, rfl⟩;rw [hr] at HKD HNM HTX HIT hm;rw [HTX.out] at HSZ;obtain ⟨rk, rt, rn, rp, ro⟩ := r
 dsimp only at HKD HNM HTX HIT hm HSZ
 have HBW : Hid (Below w.heap.size w ((w.alloc (.cells #[.slice (some ⟨g, 0, none⟩) n c, .int .i64 z] 118)).alloc (.cells #[.int .i64 0, .int .i64 0, .string ⟨#[]⟩, .slice none 0 0, .int .i64 0, .int .i64 0, .int .i64 0] 122))) := Hd ((kbelow_box w _).alloc (by simp) _);obtain ⟨y0, y1, y2, y3, y4⟩ := hm.below HBW.out hT.1;have HP0 := Hd (PaB.made w g n c z ⟨rk, rt, rn, rp, ro⟩ 118 122 94);have HK0 : Hid (rk ≠ 0) := by
  have h9 := toks_good hRK.sz hRK.tk _ (tkth_mem hkl);rw [hr] at h9;have := h9.k;unfold Hid;intro e
  dsimp only at this
  omega
 have hk' : (k : Int) < (n : Int) := by omega
 have hk'' : ¬ (n : Int) <= (k : Int) := by omega
 obtain ⟨k1, hk1⟩ : ∃ k1, k1 = k + 1 := ⟨_, rfl⟩;obtain ⟨k2, hk2⟩ : ∃ k2, k2 = k + 2 := ⟨_, rfl⟩;obtain ⟨k3, hk3⟩ : ∃ k3, k3 = k + 3 := ⟨_, rfl⟩;have w1 : IntKind.i64.wrap ((k : Int) + 1) = (k1 : Int) := by rw [IntWalk.i64_in _ (by omega)]; omega
 have w2 : IntKind.i64.wrap ((k : Int) + 2) = (k2 : Int) := by rw [IntWalk.i64_in _ (by omega)]; omega
 have w3 : IntKind.i64.wrap ((k : Int) + 3) = (k3 : Int) := by rw [IntWalk.i64_in _ (by omega)]; omega
 rw [<- hk1, <- hk2, <- hk3] at HH;have HK := Hd (And.intro hk1 (And.intro hk2 hk3));have HKL := Hd (And.intro hk (And.intro hkl hTl));clear h hRK hn hA hE hT hm hr hk hkl hlen hTl hk1 hk2 hk3 HBW;unfold tksV;rw [if_neg HC.out.1, if_neg HC.out.2.1, if_neg HC.out.2.2.1, if_neg HC.out.2.2.2.1, if_neg HC.out.2.2.2.2] at HH;have hkk : (rk == 2) = false := by have c1 := HC.out.1; rw [HKD.out] at c1; simp [c1]
 have hkk1 : (rk == 1) = false := by have c2 := HC.out.2.1; rw [HKD.out] at c2; simp [c2]
 have n3 := HIT.out _ _ (isT_false HC.out.2.2.1);have n4 := HIT.out _ _ (isT_false HC.out.2.2.2.1);have n5 := HIT.out _ _ (isT_false HC.out.2.2.2.2);have c8 := HD.out.2.2;rw [if_neg HD.out.1, if_neg HD.out.2.1] at HH;have n6 := HIT.out _ _ (isT_false HD.out.1);have n7 := HIT.out _ _ (isT_false HD.out.2.1);have h := HH.out;rw [if_pos c8] at h;obtain ⟨⟨y, ky⟩, h5, h⟩ := Option.bind_eq_some_iff.1 h
 dsimp only at h
 split at h
 ·rename_i c9
  have ht := HIT.out _ _ c8;have hk1 : k1 < T.length := by have := HRK.out.ok.text HKL.out.1 c8 (by simp); have := HK.out; omega
  have hpr := prs_ok HRK.out.ok _ _ _ _ _ rfl hk1 h5;have hj := isR_yes HRK.out hpr.lt c9 (by decide +kernel) (by decide);have HOV := Hd (HE.out k1 y ky h5 hk1);have hky : ky <= 10000 := by have := hpr.lt; have := HRK.out.ok.long; omega
  injection h with h
  injection h with e1 e2
  subst e1 e2;obtain ⟨kf, hkf⟩ : ∃ kf, kf = ky + 1 := ⟨_, rfl⟩;rw [<- hkf];have HKF := Hd hkf;clear c8 c9 h5 HA HE HH hpr hk1 hkf
  go_enter Tryz.func176, Tryz.ntmps176
  go_wp2_with fail
  have HT3 := Hd (HT.out.below HP0.out.bel HT.out.1)
  go_region_held (fun w' => w'.cell? ⟨w.heap.size, 0, none⟩ = some (.slice (some ⟨g, 0, none⟩) n c) /\ w'.cell? ⟨w.heap.size, 1, none⟩ = some (.int .i64 z)) (go_keep)
   (first
    | (go_at_call 58; refine (HOV.out _ (HT3.out.below (kbelow_dN (Below.refl _ _) _) HT3.out.1)).mono ?_
       rintro e w5 ⟨a5, c5, rfl, hk5, hb⟩;have HP5 := Hd (HP0.out.below (Below.trans (kbelow_dN (Below.refl _ _) 1) hb));have HK5 := Hd (hk5.mono (Q := fun b => w.heap.size + 1 + 1 < b) (fun b hb _ => by have := HP0.out.lt; exact Nat.lt_of_lt_of_le this hb));have HT5 := Hd (HT.out.below HP5.out.bel HT.out.1);clear hb hk5;obtain ⟨⟨t0, t1⟩, ft0, ft1⟩ := HP5.out.t.pair;obtain ⟨⟨o0, o1, o2, o3, o4, o5, o6⟩, fo0, fo1, fo2, fo3, fo4, fo5, fo6⟩ := HP5.out.o.seven;obtain ⟨⟨q0, q1, q2, q3, q4⟩, fq0, fq1, fq2, fq3, fq4⟩ := HP5.out.k.five
       skip)
    | (go_at_call 57; refine (must_ref L g n c z y a5 c5 ky ⟨#[41]⟩ _ HT5.out HN.out hky hj).mono ?_
       rw [<- HKF.out];rintro e w6 ⟨rfl, hb⟩;have HP6 := Hd (HP5.out.below hb);have HK6 := Hd (HK5.out.below hb);clear hb;clear t0 t1 ft0 ft1 o0 o1 o2 o3 o4 o5 o6 fo0 fo1 fo2 fo3 fo4 fo5 fo6 q0 q1 q2 q3 q4 fq0 fq1 fq2 fq3 fq4;obtain ⟨⟨t0, t1⟩, ft0, ft1⟩ := HP6.out.t.pair;obtain ⟨⟨o0, o1, o2, o3, o4, o5, o6⟩, fo0, fo1, fo2, fo3, fo4, fo5, fo6⟩ := HP6.out.o.seven;obtain ⟨⟨q0, q1, q2, q3, q4⟩, fq0, fq1, fq2, fq3, fq4⟩ := HP6.out.k.five;unfold rdV))
  go_wp2_with fail
  have hD := HP6.out.done (x := y) (a := a5) c5 kf (HK6.out);obtain ⟨hV, hK, hE⟩ := hD;obtain ⟨⟨e0, e1, e2, e3, e4, e5, e6⟩, -⟩ := hV.seven;simp only [rdL, putL, Nat.zero_add, Nat.reduceAdd, leafX, oneX, twoX, noT, Ex.k, Ex.n, Ex.s, Ex.m] at e0 e1 e2 e3 e4 e5 e6;refine bodyPost_ret (v := rdV (y) (a5) c5 kf) ?_ rfl ⟨_, _, rfl, hK, hE⟩;simp [results, Tryz.results176, go_sem, e0, e1, e2, e3, e4, e5, e6, rdV, leafX, oneX, twoX, noT, Ex.k, Ex.n, Ex.s, Ex.m]
 ·cases h
end Go.Proofs.YtmlpedgcpffpnaaGreatDoor
