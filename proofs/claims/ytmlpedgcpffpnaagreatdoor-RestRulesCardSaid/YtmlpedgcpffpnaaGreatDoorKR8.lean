/-
  Promise P2, of rules: the reference's reader, whole.
-/
import Derived.Test.YtmlpedgcpffpnaaGreatDoorKR7
import Derived.Test.YtmlpedgcpffpnaaGreatDoorKR5
import Derived.Test.YtmlpedgcpffpnaaGreatDoorKZ0
import Derived.Test.YtmlpedgcpffpnaaGreatDoorKZ1
import Derived.Test.YtmlpedgcpffpnaaGreatDoorKR3
import Derived.Test.YtmlpedgcpffpnaaGreatDoorKQP
import Derived.Deep.CutRange
set_option linter.unusedSimpArgs false
set_option maxRecDepth 100000
set_option maxHeartbeats 8000000
namespace Go.Proofs.YtmlpedgcpffpnaaGreatDoor
open Go.RowKit
theorem reader_all {s0 : ByteArray} {L T : List Tk} {g n c : Nat} {z : Int} (hRK : RkL s0 L T) (hn : L.length = n) : ∀ f, RdF 176 T L g n c z .pa f /\ RdF 146 T L g n c z .pr f /\ RdF 106 T L g n c z .su f /\ RdF 58 T L g n c z .ex f := by
 intro f
 induction f using Nat.strongRecOn with
 | _ f ih =>
   cases f with
   | zero => exact ⟨fun k x k' h => by simp [prs] at h, fun k x k' h => by simp [prs] at h, fun k x k' h => by simp [prs] at h, fun k x k' h => by simp [prs] at h⟩
   | succ f =>
     have i := ih f (Nat.lt_succ_self f);refine ⟨part_ref hRK hn i.1 i.2.2.2, product_ref hRK hn i.1, sum_ref hRK hn (fun f' hf => (ih f' (by omega)).2.1), ?_⟩;intro k x k' h hk
     by_cases hi : isT T k [105, 102] = true
     ·exact expr_if hRK hn i.2.2.1 i.2.2.2 k x k' h hk hi
     ·rw [prs_ex, if_neg hi] at h;exact expr_no hRK hn i.2.2.1 k x k' h hk hi
structure PlB (w X : World) (tb g n c : Nat) (z : Int) (L : List Tk) (M : List LnC) (v : Value) : Prop where
 bel : Below w.heap.size w X
 o : Bxs X w.heap.size [.int .i64 0, .int .i64 0]
 t : Bxs X tb [.slice (some ⟨g, 0, none⟩) n c, .int .i64 z]
 tk : TAt X g L
 gr : GrowN X (tb + 1) v M
 kd : ∀ j, j < M.length -> KidsP X (fun b => tb < b /\ some b ≠ v.ownBlock) (lcth M j).l.ex (lcth M j).a
 nm : ∀ j, j < M.length -> (lcth M j).l.name.size <= maxLen
 lt : tb < X.heap.size
 gt : w.heap.size < tb
 gl : g < tb
theorem GrowN.below {w w' : World} {B : Nat} {v : Value} {l : List LnC} (h : GrowN w B v l) (hb : Below w.heap.size w w') : GrowN w' B v l :=
 h.kept (row := none) ⟨hb.os, hb.tape, hb.output, hb.size, fun k hk _ => hb.block k hk⟩ fun r e => by cases e
theorem PlB.below {w X X' : World} {tb g n c : Nat} {z : Int} {L : List Tk} {M : List LnC} {v : Value} (h : PlB w X tb g n c z L M v) (hb : Below X.heap.size X X') : PlB w X' tb g n c z L M v :=
 have h1 := h.lt;have h2 := h.gt
 ⟨h.bel.trans (hb.mono h.bel.size), h.o.below hb (by omega), h.t.below hb h.lt, h.tk.below hb h.tk.1, h.gr.below hb, fun j hj => (h.kd j hj).below hb, h.nm, Nat.lt_of_lt_of_le h.lt hb.size, h.gt, h.gl⟩
theorem PlB.app {w X w4 : World} {tb g n c : Nat} {z : Int} {L : List Tk} {M : List LnC} {v v' : Value} {o : Obj} {r : LnC} (h : PlB w X tb g n c z L M v) (hk : KidsP X (fun b => tb < b /\ some b ≠ v.ownBlock) r.l.ex r.a) (hnm : r.l.name.size <= maxLen) (hg : GrowN w4 (tb + 1) v' (M ++ [r])) (hgr : (X.alloc o).grownBy w4 v.ownBlock) (hv : v'.ownBlock = v.ownBlock \/ v'.ownBlock = some (X.alloc o).heap.size) : PlB w w4 tb g n c z L (M ++ [r]) v' := by
 have hsa : (X.alloc o).heap.size = X.heap.size + 1 := by simp
 have hlt := h.lt;have hgt := h.gt;have hgl := h.gl;have hsz : X.heap.size <= w4.heap.size := by have := hgr.size; omega
 have hblk : ∀ b, b <= tb -> w4.heap[b]? = X.heap[b]? := fun b hb => (hgr.block b (by omega) fun e => by have := (h.gr.lt b e.symm).1; omega).trans ((kbelow_box X o).block b (by omega))
 have kid : ∀ {x : Ex} {a : Option Addr}, KidsP X (fun b => tb < b /\ some b ≠ v.ownBlock) x a -> KidsP w4 (fun b => tb < b /\ some b ≠ v'.ownBlock) x a := fun hx => hx.to (fun b hb hB => ⟨(hgr.block b (by omega) hb.2).trans ((kbelow_box X o).block b hB), hb.1, fun e => by
  rcases hv with hv | hv
  ·rw [hv] at e; exact hb.2 e
  ·rw [hv, hsa] at e;injection e with e
   omega⟩) hsz
 refine ⟨h.bel.trans ⟨hgr.os, hgr.tape, hgr.output, hsz, fun b hb => hblk b (by omega)⟩, h.o.to (hblk _ (by omega)), h.t.to (hblk _ (Nat.le_refl _)), ⟨Nat.lt_of_lt_of_le h.tk.1 hsz, fun j hj => ?_⟩, hg, fun j hj => ?_, fun j hj => ?_, Nat.lt_of_lt_of_le hlt hsz, hgt, hgl⟩
 ·obtain ⟨a0, a1, a2, a3, a4⟩ := h.tk.2 j hj;have cg : ∀ o, w4.cell? ⟨g, o, none⟩ = X.cell? ⟨g, o, none⟩ := fun o => World.cell?_of_block (a := ⟨g, o, none⟩) (hblk g (by omega))
  exact ⟨(cg _).trans a0, (cg _).trans a1, (cg _).trans a2, (cg _).trans a3, (cg _).trans a4⟩
 ·by_cases e : j < M.length
  ·rw [lcth_lt e]; exact kid (h.kd j e)
  ·have hj' : j = M.length := by simp at hj; omega
   subst hj';rw [lcth_at]; exact kid hk
 ·by_cases e : j < M.length
  ·rw [lcth_lt e]; exact h.nm j e
  ·have hj' : j = M.length := by simp at hj; omega
   subst hj';rw [lcth_at]; exact hnm
theorem strs5_at (V : World) (a b c d e : ByteArray) (T : TypeId) : (V.alloc (.cells #[.string a, .string b, .string c, .string d, .string e] T)).cell? ⟨V.heap.size, 1, none⟩ = some (.string b) /\ (V.alloc (.cells #[.string a, .string b, .string c, .string d, .string e] T)).cell? ⟨V.heap.size, 2, none⟩ = some (.string c) /\ (V.alloc (.cells #[.string a, .string b, .string c, .string d, .string e] T)).cell? ⟨V.heap.size, 3, none⟩ = some (.string d) /\ (V.alloc (.cells #[.string a, .string b, .string c, .string d, .string e] T)).cell? ⟨V.heap.size, 4, none⟩ = some (.string e) := by
 refine ⟨?_, ?_, ?_, ?_⟩ <;> simp
theorem lkT_four {s0 : ByteArray} {L T : List Tk} (hRK : RkL s0 L T) {k : Nat} (hk : k < T.length) (h : lkT T k ≠ 0) :
 isR L k ⟨#[101, 97, 114, 110]⟩ = decide (lkT T k = 1) /\ isR L k ⟨#[116, 97, 107, 101]⟩ = decide (lkT T k = 2) /\ isR L k ⟨#[116, 97, 120]⟩ = decide (lkT T k = 3) /\ isR L k ⟨#[108, 101, 116]⟩ = decide (lkT T k = 4) := by
 have no : ∀ l m : List UInt8, isT T k l = true -> l ≠ m -> isR L k ⟨m.toArray⟩ = false := fun l m h1 h2 => isR_no hRK fun q => by
  rw [isT_eq] at h1 q;rw [h1] at q;injection q with q
  exact h2 (by have := congrArg Array.toList q; simpa using this)
 unfold lkT at h ⊢
 split
 ·rename_i h1
  exact ⟨isR_yes hRK hk h1 (by decide +kernel) (by decide), no _ [116, 97, 107, 101] h1 (by decide), no _ [116, 97, 120] h1 (by decide), no _ [108, 101, 116] h1 (by decide)⟩
 ·split
  ·rename_i h1
   exact ⟨no _ [101, 97, 114, 110] h1 (by decide), isR_yes hRK hk h1 (by decide +kernel) (by decide), no _ [116, 97, 120] h1 (by decide), no _ [108, 101, 116] h1 (by decide)⟩
  ·split
   ·rename_i h1
    exact ⟨no _ [101, 97, 114, 110] h1 (by decide), no _ [116, 97, 107, 101] h1 (by decide), isR_yes hRK hk h1 (by decide +kernel) (by decide), no _ [108, 101, 116] h1 (by decide)⟩
   ·split
    ·rename_i h1
     exact ⟨no _ [101, 97, 114, 110] h1 (by decide), no _ [116, 97, 107, 101] h1 (by decide), no _ [116, 97, 120] h1 (by decide), isR_yes hRK hk h1 (by decide +kernel) (by decide)⟩
    ·rename_i h1 h2 h3 h4
     rw [if_neg h1, if_neg h2, if_neg h3, if_neg h4] at h;exact absurd rfl h
def RpR (w : World) (l : List Ln) (e : Ending) (w' : World) : Prop := ∃ x c, e = .returned (.tuple #[.slice x l.length c, .agg #[.int .i64 0, .int .i64 0]]) /\ CameL w' x l /\ Below w.heap.size w w'
theorem PlB.put {w X : World} {tb g n c : Nat} {z : Int} {L : List Tk} {M : List LnC} {v : Value} {rb : Nat} (h : PlB w X tb g n c z L M v) (hr : tb < rb) (hv : some rb ≠ v.ownBlock) (hk : ∀ j, j < M.length -> KidsP X (fun b => (tb < b /\ some b ≠ v.ownBlock) /\ b ≠ rb) (lcth M j).l.ex (lcth M j).a) (us : List Value) : PlB w (putL X rb 0 us) tb g n c z L M v := by
 have hgt := h.gt;have hgl := h.gl;have hblk : ∀ b, b ≠ rb -> (putL X rb 0 us).heap[b]? = X.heap[b]? := fun b hb => putL_block rb hb us 0 X
 refine ⟨putL_below h.bel (by omega) us, h.o.to (hblk _ (by omega)), h.t.to (hblk _ (by omega)), ⟨by rw [putL_size]; exact h.tk.1, fun j hj => ?_⟩, ?_, fun j hj => ((hk j hj).put (c := rb) (fun b hb => hb.2) 0 us).mono fun b hb _ => hb.1, h.nm, by rw [putL_size]; exact h.lt, h.gt, h.gl⟩
 ·obtain ⟨a0, a1, a2, a3, a4⟩ := h.tk.2 j hj;have cg : ∀ o, (putL X rb 0 us).cell? ⟨g, o, none⟩ = X.cell? ⟨g, o, none⟩ := fun o => World.cell?_of_block (a := ⟨g, o, none⟩) (hblk g (by omega))
  exact ⟨(cg _).trans a0, (cg _).trans a1, (cg _).trans a2, (cg _).trans a3, (cg _).trans a4⟩
 ·refine World.ownsRow.kept (row := some rb) h.gr ⟨(putL_rest rb us 0 X).1, (putL_rest rb us 0 X).2.1, (putL_rest rb us 0 X).2.2, by rw [putL_size]; exact Nat.le_refl _, fun b hb hn => hblk b (fun e => hn (by rw [e]))⟩ (.inr fun e => hv e.symm)
theorem wyT_5 {t : Int} (h : t <= 4) : wyT t 5 = t := by unfold wyT; rw [if_pos (by omega)]
theorem parseLines_ref (s : ByteArray) (L : List Tk) (l : List Ln) (w : World) (hTk : Toks s s.size L) (hs : s.size <= 4000) (h0 : 0 < L.length) (hl : linesT (L ++ [endK s]) = some l) :
 Calls Tryz.prog 21 #[.string s] w fun e w' => RpR w l e w' := by
 have hRK : RkL s L (L ++ [endK s]) := ⟨hTk, hs, rfl, tok_ok (by have := hTk.len; omega) (toks_good hs hTk)⟩;obtain ⟨T, hT⟩ : ∃ T, T = L ++ [endK s] := ⟨_, rfl⟩;rw [<- hT] at hl hRK;have HRK := Hd hRK;have HL := Hd hl;have HL0 := Hd h0;have HTR := Hd (tokens_ref s L (w.alloc (.cells #[.int .i64 0, .int .i64 0] 42)) hTk hs);have HB0 := Hd (kbelow_box w (.cells #[.int .i64 0, .int .i64 0] 42));have HO0 := Hd (Bxs.made w [.int .i64 0, .int .i64 0] 42);clear hTk hs h0 hl hT hRK
 go_enter Tryz.func21, Tryz.ntmps21
 go_wp2_with fail
 refine HTR.out.mono ?_;rintro e w1 ⟨v1, rfl, hg1, hb1⟩
 rcases hg1.form with ⟨_, hnil⟩ | ⟨g, c, rfl, hBg, hTA⟩
 ·have := HL0.out;rw [hnil] at this;exact absurd this (Nat.lt_irrefl 0)
 obtain ⟨n, hn⟩ : ∃ n, L.length = n := ⟨_, rfl⟩;rw [hn];have HN := Hd hn;have HB1 := Hd (HB0.out.trans (hb1.mono HB0.out.size));have HO1 := Hd (HO0.out.below hb1 (by simp));have HTA := Hd hTA;have HBG : Hid (w.heap.size < g) := Hd (by simp at hBg; omega);have hz1 : w.heap.size < w1.heap.size := by have := hb1.size; simp at this; omega
 clear hg1 hb1 hBg hTA hn HTR HB0 HO0;go_wp2_with fail
 have HX0 : Hid (PlB w ((w1.alloc (.cells #[.int .i64 0, .int .i64 0] 42)).alloc (.cells #[.slice (some ⟨g, 0, none⟩) n c, .int .i64 (s.size : Int)] 118)) (w1.heap.size + 1) g n c (s.size : Int) L [] (.slice none 0 0)) := Hd (by
  have hb2 := kbelow_box w1 (.cells #[.int .i64 0, .int .i64 0] 42);have hb3 := hb2.alloc (by simp) (.cells #[.slice (some ⟨g, 0, none⟩) n c, .int .i64 (s.size : Int)] 118);exact ⟨HB1.out.trans (hb3.mono HB1.out.size), HO1.out.below hb3 hz1, Bxs.made_at (w1.alloc _) (by simp) [.slice (some ⟨g, 0, none⟩) n c, .int .i64 (s.size : Int)] _, HTA.out.below hb3 HTA.out.1, GrowN.nil _ _, fun j hj => absurd hj (Nat.not_lt_zero _), fun j hj => absurd hj (Nat.not_lt_zero _), by simp, by omega, by have := HTA.out.1; omega⟩)
 generalize ((w1.alloc (.cells #[.int .i64 0, .int .i64 0] 42)).alloc (.cells #[.slice (some ⟨g, 0, none⟩) n c, .int .i64 (s.size : Int)] 118)) = v2 at HX0 ⊢;generalize w1.heap.size + 1 = tb at HX0 ⊢;generalize (s.size : Int) = z at HX0 ⊢;clear HB1 HO1 HTA HBG hz1;unfold linesT at HL
 go_loopw [7, 8] (fun v iv wr => ∃ (k f : Nat) (M : List LnC) (R : List Ln), iv = .int .i64 (k : Int) /\ PlB w wr tb g n c z L M v /\ lnsT T f M.length k = some R /\ M.map LnC.l ++ R = l /\ k < T.length /\ M.length <= 40) (fun _ iv _ => n - (intOf iv).toNat)
 case atStart => exact ⟨0, T.length + 1, [], l, rfl, HX0.out, HL.out, rfl, by have := HRK.out.ok.pos; omega, by simp⟩
 case round =>
  clear HX0 HL;obtain ⟨k, f, M, R, rfl, hX, hR, hML, hkT, hm40⟩ := hrel;have hTn : T.length = n + 1 := by have := HRK.out.len; have := HN.out; omega
  cases f with
  | zero => cases hR
  | succ f =>
    rw [lnsT_eq] at hR
    by_cases hlt : k < n
    ·have hlt' : (k : Int) < (n : Int) := by omega
     rw [if_neg (by omega)] at hR
     split at hR
     ·cases hR
     ·rename_i h40
      obtain ⟨⟨ln, k2⟩, hln, hR⟩ := Option.bind_eq_some_iff.1 hR;obtain ⟨R2, hR2, hR⟩ := Option.bind_eq_some_iff.1 hR;injection hR with hR
      subst hR;have hok := lnT_ok HRK.out.ok hkT hln;unfold lnT at hln
      split at hln
      ·cases hln
      ·rename_i hk0
       obtain ⟨nm, hnm, hln⟩ := Option.bind_eq_some_iff.1 hln
       split at hln
       ·rename_i d2
        obtain ⟨⟨xe, ke⟩, hpr, hln⟩ := Option.bind_eq_some_iff.1 hln
        dsimp only at hln
        split at hln
        ·rename_i d3
         split at hln
         ·cases hln
         ·rename_i hdp
          injection hln with hln
          injection hln with e1 e2
          subst e1 e2;have hF := lkT_four HRK.out hkT hk0;have hbd := lkT_bd hk0;obtain ⟨t, ht⟩ : ∃ t, lkT T k = t := ⟨_, rfl⟩;rw [ht] at hF hbd hok hR2 hML;have hq := namT_is hnm;have hkk1 : k + 1 < T.length := by omega
          have hkk2 := HRK.out.ok.kind hkk1 hq.1 (by omega);have hkk3 := HRK.out.ok.text hkk2 d2 (by simp);have hpo := prs_ok HRK.out.ok _ _ _ _ _ rfl hkk3 hpr;have j2 := isR_yes HRK.out hkk2 d2 (by decide +kernel) (by decide);have j3 := isR_yes HRK.out hpo.lt d3 (by decide +kernel) (by decide);have hlong := HRK.out.ok.long;have HOP := Hd ((reader_all (g := g) (z := z) (c := c) HRK.out HN.out (fuelT T)).2.2.2 (k + 3) xe ke hpr hkk3);have HM := Hd (fun W a5 c5 hW => must_ref L g n c z xe a5 c5 ke ⟨#[59]⟩ W hW HN.out (by have := hpo.lt; omega) j3);obtain ⟨k1, hk1⟩ : ∃ q, q = k + 1 := ⟨_, rfl⟩;obtain ⟨k2, hk2⟩ : ∃ q, q = k + 2 := ⟨_, rfl⟩;obtain ⟨k3, hk3⟩ : ∃ q, q = k + 3 := ⟨_, rfl⟩;obtain ⟨kf, hkf⟩ : ∃ q, q = ke + 1 := ⟨_, rfl⟩;have w1' : IntKind.i64.wrap ((k : Int) + 1) = (k1 : Int) := by rw [IntWalk.i64_in _ (by omega)]; omega
          have w2' : IntKind.i64.wrap ((k : Int) + 2) = (k2 : Int) := by rw [IntWalk.i64_in _ (by omega)]; omega
          have w3' : IntKind.i64.wrap ((k : Int) + 3) = (k3 : Int) := by rw [IntWalk.i64_in _ (by omega)]; omega
          rw [<- hk2] at j2;rw [<- hk3] at HOP;rw [<- hkf] at HM hR2;have hq1 := hq.1;have hq2 := hq.2;unfold kdT at hq1;have hkl1 : k + 1 < L.length := by have := HN.out; omega
          rw [HRK.out.at_ hkl1] at hq1 hq2;rw [<- hk1] at hq1 hq2 hkl1;have HNAM := Hd (And.intro hq1 (And.intro hq2 hkl1));have HFO := Hd hF;have HBD := Hd hbd;have HOK := Hd hok;have HR2 := Hd hR2;have HML := Hd hML;have HDP := Hd (And.intro hdp (And.intro hpo.lt (And.intro hpo.low (And.intro hk3 hkf))));have hk1' : (k1 : Int) < (n : Int) := by have := HN.out; omega
          have hk1'' : ¬ (n : Int) <= (k1 : Int) := by omega
          have HX1 := Hd hX;obtain ⟨xo, co, hv⟩ := hX.gr.slice;subst hv;have h40' : ¬ (M.length : Int) = 40 := by omega
          clear hF hbd hok hR2 hML hdp hpo hq hq1 hq2 hkl1 hkk1 hkk2 hkk3 d2 d3 hlong hnm hpr hk0 ht hk1 hk2 hk3 hkf j3 hX hlt hkT hTn;go_wp2_with fail
          go_loopw [9, 10] (fun wv kv wr2 => (kv = .int .i64 1 /\ wv = .int .i64 (wyT t 1) /\ PlB w wr2 tb g n c z L M (.slice xo M.length co)) \/ (kv = .int .i64 2 /\ wv = .int .i64 (wyT t 2) /\ PlB w wr2 tb g n c z L M (.slice xo M.length co)) \/ (kv = .int .i64 3 /\ wv = .int .i64 (wyT t 3) /\ PlB w wr2 tb g n c z L M (.slice xo M.length co)) \/ (kv = .int .i64 4 /\ wv = .int .i64 (wyT t 4) /\ PlB w wr2 tb g n c z L M (.slice xo M.length co)) \/ (kv = .int .i64 5 /\ wv = .int .i64 (wyT t 5) /\ PlB w wr2 tb g n c z L M (.slice xo M.length co))) (fun _ kv _ => 5 - (intOf kv).toNat)
          case atStart => exact .inl ⟨rfl, by rw [wyT_1 HBD.out.1], HX1.out⟩
          case round =>
           clear HX1
           rcases hrel with hin | hin | hin | hin | hin
           ·obtain ⟨rfl, rfl, hX⟩ := hin;have HX := Hd hX;clear hX;obtain ⟨⟨t0, t1⟩, ft0, ft1⟩ := HX.out.t.pair;go_wp2_with fail
            have HD0 : Hid (Below wr.heap.size wr wr.drew) := Hd (kbelow_dN (Below.refl _ _) 1);refine wp_region_held_drew (S := fun w' => w'.cell? ⟨tb, 0, none⟩ = some (.slice (some ⟨g, 0, none⟩) n c) /\ w'.cell? ⟨tb, 1, none⟩ = some (.int .i64 z)) (by kernel_rfl) ⟨t0, t1⟩ (fun hHeld => ?_);generalize wr.drew = V0 at HD0 hHeld ⊢;replace HX := Hd (HX.out.below HD0.out);clear t0 t1 ft0 ft1;obtain ⟨⟨t0, t1⟩, ft0, ft1⟩ := HX.out.t.pair;clear HD0;refine tkH 0 (.agg #[.slice (some ⟨g, 0, none⟩) n c, .int .i64 z]) rfl (fun w' hSw => ?_) ?_
            ·((try dsimp only at hSw); go_simp; try with_reducible rfl)
            try simp only [Act.put, layS]
            refine tkH 1 (.int .i64 (k : Int)) rfl (fun w' hSw => ?_) ?_
            ·((try dsimp only at hSw); go_simp; try with_reducible rfl)
            try simp only [Act.put, layS]
            refine tkH 3 (.int .i64 1) rfl (fun w' hSw => ?_) ?_
            ·((try dsimp only at hSw); go_simp; try with_reducible rfl)
            try simp only [Act.put, layS]
            refine rd1 2 rfl (fun K hK => ?_);go_simp;have hbx := kbelow_box V0 (.cells #[.string ⟨#[]⟩, .string ⟨#[101, 97, 114, 110]⟩, .string ⟨#[116, 97, 107, 101]⟩, .string ⟨#[116, 97, 120]⟩, .string ⟨#[108, 101, 116]⟩] 9);obtain ⟨s1', s2', s3', s4'⟩ := strs5_at V0 ⟨#[]⟩ ⟨#[101, 97, 114, 110]⟩ ⟨#[116, 97, 107, 101]⟩ ⟨#[116, 97, 120]⟩ ⟨#[108, 101, 116]⟩ 9;generalize V0.alloc (.cells #[.string ⟨#[]⟩, .string ⟨#[101, 97, 114, 110]⟩, .string ⟨#[116, 97, 107, 101]⟩, .string ⟨#[116, 97, 120]⟩, .string ⟨#[108, 101, 116]⟩] 9) = V1 at hbx s1' s2' s3' s4' ⊢;replace HX := Hd (HX.out.below hbx);clear t0 t1 ft0 ft1;obtain ⟨⟨t0, t1⟩, ft0, ft1⟩ := HX.out.t.pair;clear hbx;refine hK.out _ _ ⟨t0, t1⟩ (fun hHeld => ?_);clear hK K
            try simp only [Act.put, layS]
            refine tkH 4 (.pointer (some ⟨V0.heap.size, 1, none⟩)) rfl (fun w' hSw => ?_) ?_
            ·((try dsimp only at hSw); go_simp; try with_reducible rfl)
            try simp only [Act.put, layS]
            refine rd1 5 rfl (fun K hK => ?_);go_simp;refine hK.out _ _ ⟨t0, t1⟩ (fun hHeld => ?_);clear hK K
            try simp only [Act.put, layS]
            refine rd1 6 rfl (fun K hK => ?_);go_simp;refine (is_ref L g n c z k ⟨#[101, 97, 114, 110]⟩ _ HX.out.tk HN.out).mono ?_;rintro e w5 ⟨rfl, hb⟩;clear hHeld;rw [HFO.out.1];replace HX := Hd (HX.out.below hb);clear t0 t1 ft0 ft1;obtain ⟨⟨t0, t1⟩, ft0, ft1⟩ := HX.out.t.pair;clear hb
            try go_wp2_with fail
            refine hK.out _ _ ⟨t0, t1⟩ (fun hHeld => ?_);clear hK K
            try simp only [Act.put, layS]
            clear hHeld;refine wpAnyH_done (by kernel_rfl) ?_ _
            by_cases hq : t = 1
            ·rw [decide_eq_true hq];have HQ : Hid (wyT t 2 = 1) := Hd (wyT_hit hq (by omega));clear hq;clear t0 t1 ft0 ft1;go_wp2_with fail
             go_roundw
             case rel => exact .inr (.inl ⟨by first | rfl | go_num, by rw [HQ.out], HX.out⟩)
             case measure => simp [intOf]
            ·rw [dEf hq];have HQ : Hid (wyT t 2 = wyT t 1) := Hd (wyT_miss hq (by omega));clear hq;clear t0 t1 ft0 ft1;go_wp2_with fail
             go_roundw
             case rel => exact .inr (.inl ⟨by first | rfl | go_num, by rw [HQ.out], HX.out⟩)
             case measure => simp [intOf]
           ·obtain ⟨rfl, rfl, hX⟩ := hin;have HX := Hd hX;clear hX;obtain ⟨⟨t0, t1⟩, ft0, ft1⟩ := HX.out.t.pair;go_wp2_with fail
            have HD0 : Hid (Below wr.heap.size wr wr.drew) := Hd (kbelow_dN (Below.refl _ _) 1);refine wp_region_held_drew (S := fun w' => w'.cell? ⟨tb, 0, none⟩ = some (.slice (some ⟨g, 0, none⟩) n c) /\ w'.cell? ⟨tb, 1, none⟩ = some (.int .i64 z)) (by kernel_rfl) ⟨t0, t1⟩ (fun hHeld => ?_);generalize wr.drew = V0 at HD0 hHeld ⊢;replace HX := Hd (HX.out.below HD0.out);clear t0 t1 ft0 ft1;obtain ⟨⟨t0, t1⟩, ft0, ft1⟩ := HX.out.t.pair;clear HD0;refine tkH 0 (.agg #[.slice (some ⟨g, 0, none⟩) n c, .int .i64 z]) rfl (fun w' hSw => ?_) ?_
            ·((try dsimp only at hSw); go_simp; try with_reducible rfl)
            try simp only [Act.put, layS]
            refine tkH 1 (.int .i64 (k : Int)) rfl (fun w' hSw => ?_) ?_
            ·((try dsimp only at hSw); go_simp; try with_reducible rfl)
            try simp only [Act.put, layS]
            refine tkH 3 (.int .i64 2) rfl (fun w' hSw => ?_) ?_
            ·((try dsimp only at hSw); go_simp; try with_reducible rfl)
            try simp only [Act.put, layS]
            refine rd1 2 rfl (fun K hK => ?_);go_simp;have hbx := kbelow_box V0 (.cells #[.string ⟨#[]⟩, .string ⟨#[101, 97, 114, 110]⟩, .string ⟨#[116, 97, 107, 101]⟩, .string ⟨#[116, 97, 120]⟩, .string ⟨#[108, 101, 116]⟩] 9);obtain ⟨s1', s2', s3', s4'⟩ := strs5_at V0 ⟨#[]⟩ ⟨#[101, 97, 114, 110]⟩ ⟨#[116, 97, 107, 101]⟩ ⟨#[116, 97, 120]⟩ ⟨#[108, 101, 116]⟩ 9;generalize V0.alloc (.cells #[.string ⟨#[]⟩, .string ⟨#[101, 97, 114, 110]⟩, .string ⟨#[116, 97, 107, 101]⟩, .string ⟨#[116, 97, 120]⟩, .string ⟨#[108, 101, 116]⟩] 9) = V1 at hbx s1' s2' s3' s4' ⊢;replace HX := Hd (HX.out.below hbx);clear t0 t1 ft0 ft1;obtain ⟨⟨t0, t1⟩, ft0, ft1⟩ := HX.out.t.pair;clear hbx;refine hK.out _ _ ⟨t0, t1⟩ (fun hHeld => ?_);clear hK K
            try simp only [Act.put, layS]
            refine tkH 4 (.pointer (some ⟨V0.heap.size, 2, none⟩)) rfl (fun w' hSw => ?_) ?_
            ·((try dsimp only at hSw); go_simp; try with_reducible rfl)
            try simp only [Act.put, layS]
            refine rd1 5 rfl (fun K hK => ?_);go_simp;refine hK.out _ _ ⟨t0, t1⟩ (fun hHeld => ?_);clear hK K
            try simp only [Act.put, layS]
            refine rd1 6 rfl (fun K hK => ?_);go_simp;refine (is_ref L g n c z k ⟨#[116, 97, 107, 101]⟩ _ HX.out.tk HN.out).mono ?_;rintro e w5 ⟨rfl, hb⟩;clear hHeld;rw [HFO.out.2.1];replace HX := Hd (HX.out.below hb);clear t0 t1 ft0 ft1;obtain ⟨⟨t0, t1⟩, ft0, ft1⟩ := HX.out.t.pair;clear hb
            try go_wp2_with fail
            refine hK.out _ _ ⟨t0, t1⟩ (fun hHeld => ?_);clear hK K
            try simp only [Act.put, layS]
            clear hHeld;refine wpAnyH_done (by kernel_rfl) ?_ _
            by_cases hq : t = 2
            ·rw [decide_eq_true hq];have HQ : Hid (wyT t 3 = 2) := Hd (wyT_hit hq (by omega));clear hq;clear t0 t1 ft0 ft1;go_wp2_with fail
             go_roundw
             case rel => exact .inr (.inr (.inl ⟨by first | rfl | go_num, by rw [HQ.out], HX.out⟩))
             case measure => simp [intOf]
            ·rw [dEf hq];have HQ : Hid (wyT t 3 = wyT t 2) := Hd (wyT_miss hq (by omega));clear hq;clear t0 t1 ft0 ft1;go_wp2_with fail
             go_roundw
             case rel => exact .inr (.inr (.inl ⟨by first | rfl | go_num, by rw [HQ.out], HX.out⟩))
             case measure => simp [intOf]
           ·obtain ⟨rfl, rfl, hX⟩ := hin;have HX := Hd hX;clear hX;obtain ⟨⟨t0, t1⟩, ft0, ft1⟩ := HX.out.t.pair;go_wp2_with fail
            have HD0 : Hid (Below wr.heap.size wr wr.drew) := Hd (kbelow_dN (Below.refl _ _) 1);refine wp_region_held_drew (S := fun w' => w'.cell? ⟨tb, 0, none⟩ = some (.slice (some ⟨g, 0, none⟩) n c) /\ w'.cell? ⟨tb, 1, none⟩ = some (.int .i64 z)) (by kernel_rfl) ⟨t0, t1⟩ (fun hHeld => ?_);generalize wr.drew = V0 at HD0 hHeld ⊢;replace HX := Hd (HX.out.below HD0.out);clear t0 t1 ft0 ft1;obtain ⟨⟨t0, t1⟩, ft0, ft1⟩ := HX.out.t.pair;clear HD0;refine tkH 0 (.agg #[.slice (some ⟨g, 0, none⟩) n c, .int .i64 z]) rfl (fun w' hSw => ?_) ?_
            ·((try dsimp only at hSw); go_simp; try with_reducible rfl)
            try simp only [Act.put, layS]
            refine tkH 1 (.int .i64 (k : Int)) rfl (fun w' hSw => ?_) ?_
            ·((try dsimp only at hSw); go_simp; try with_reducible rfl)
            try simp only [Act.put, layS]
            refine tkH 3 (.int .i64 3) rfl (fun w' hSw => ?_) ?_
            ·((try dsimp only at hSw); go_simp; try with_reducible rfl)
            try simp only [Act.put, layS]
            refine rd1 2 rfl (fun K hK => ?_);go_simp;have hbx := kbelow_box V0 (.cells #[.string ⟨#[]⟩, .string ⟨#[101, 97, 114, 110]⟩, .string ⟨#[116, 97, 107, 101]⟩, .string ⟨#[116, 97, 120]⟩, .string ⟨#[108, 101, 116]⟩] 9);obtain ⟨s1', s2', s3', s4'⟩ := strs5_at V0 ⟨#[]⟩ ⟨#[101, 97, 114, 110]⟩ ⟨#[116, 97, 107, 101]⟩ ⟨#[116, 97, 120]⟩ ⟨#[108, 101, 116]⟩ 9;generalize V0.alloc (.cells #[.string ⟨#[]⟩, .string ⟨#[101, 97, 114, 110]⟩, .string ⟨#[116, 97, 107, 101]⟩, .string ⟨#[116, 97, 120]⟩, .string ⟨#[108, 101, 116]⟩] 9) = V1 at hbx s1' s2' s3' s4' ⊢;replace HX := Hd (HX.out.below hbx);clear t0 t1 ft0 ft1;obtain ⟨⟨t0, t1⟩, ft0, ft1⟩ := HX.out.t.pair;clear hbx;refine hK.out _ _ ⟨t0, t1⟩ (fun hHeld => ?_);clear hK K
            try simp only [Act.put, layS]
            refine tkH 4 (.pointer (some ⟨V0.heap.size, 3, none⟩)) rfl (fun w' hSw => ?_) ?_
            ·((try dsimp only at hSw); go_simp; try with_reducible rfl)
            try simp only [Act.put, layS]
            refine rd1 5 rfl (fun K hK => ?_);go_simp;refine hK.out _ _ ⟨t0, t1⟩ (fun hHeld => ?_);clear hK K
            try simp only [Act.put, layS]
            refine rd1 6 rfl (fun K hK => ?_);go_simp;refine (is_ref L g n c z k ⟨#[116, 97, 120]⟩ _ HX.out.tk HN.out).mono ?_;rintro e w5 ⟨rfl, hb⟩;clear hHeld;rw [HFO.out.2.2.1];replace HX := Hd (HX.out.below hb);clear t0 t1 ft0 ft1;obtain ⟨⟨t0, t1⟩, ft0, ft1⟩ := HX.out.t.pair;clear hb
            try go_wp2_with fail
            refine hK.out _ _ ⟨t0, t1⟩ (fun hHeld => ?_);clear hK K
            try simp only [Act.put, layS]
            clear hHeld;refine wpAnyH_done (by kernel_rfl) ?_ _
            by_cases hq : t = 3
            ·rw [decide_eq_true hq];have HQ : Hid (wyT t 4 = 3) := Hd (wyT_hit hq (by omega));clear hq;clear t0 t1 ft0 ft1;go_wp2_with fail
             go_roundw
             case rel => exact .inr (.inr (.inr (.inl ⟨by first | rfl | go_num, by rw [HQ.out], HX.out⟩)))
             case measure => simp [intOf]
            ·rw [dEf hq];have HQ : Hid (wyT t 4 = wyT t 3) := Hd (wyT_miss hq (by omega));clear hq;clear t0 t1 ft0 ft1;go_wp2_with fail
             go_roundw
             case rel => exact .inr (.inr (.inr (.inl ⟨by first | rfl | go_num, by rw [HQ.out], HX.out⟩)))
             case measure => simp [intOf]
           ·obtain ⟨rfl, rfl, hX⟩ := hin;have HX := Hd hX;clear hX;obtain ⟨⟨t0, t1⟩, ft0, ft1⟩ := HX.out.t.pair;go_wp2_with fail
            have HD0 : Hid (Below wr.heap.size wr wr.drew) := Hd (kbelow_dN (Below.refl _ _) 1);refine wp_region_held_drew (S := fun w' => w'.cell? ⟨tb, 0, none⟩ = some (.slice (some ⟨g, 0, none⟩) n c) /\ w'.cell? ⟨tb, 1, none⟩ = some (.int .i64 z)) (by kernel_rfl) ⟨t0, t1⟩ (fun hHeld => ?_);generalize wr.drew = V0 at HD0 hHeld ⊢;replace HX := Hd (HX.out.below HD0.out);clear t0 t1 ft0 ft1;obtain ⟨⟨t0, t1⟩, ft0, ft1⟩ := HX.out.t.pair;clear HD0;refine tkH 0 (.agg #[.slice (some ⟨g, 0, none⟩) n c, .int .i64 z]) rfl (fun w' hSw => ?_) ?_
            ·((try dsimp only at hSw); go_simp; try with_reducible rfl)
            try simp only [Act.put, layS]
            refine tkH 1 (.int .i64 (k : Int)) rfl (fun w' hSw => ?_) ?_
            ·((try dsimp only at hSw); go_simp; try with_reducible rfl)
            try simp only [Act.put, layS]
            refine tkH 3 (.int .i64 4) rfl (fun w' hSw => ?_) ?_
            ·((try dsimp only at hSw); go_simp; try with_reducible rfl)
            try simp only [Act.put, layS]
            refine rd1 2 rfl (fun K hK => ?_);go_simp;have hbx := kbelow_box V0 (.cells #[.string ⟨#[]⟩, .string ⟨#[101, 97, 114, 110]⟩, .string ⟨#[116, 97, 107, 101]⟩, .string ⟨#[116, 97, 120]⟩, .string ⟨#[108, 101, 116]⟩] 9);obtain ⟨s1', s2', s3', s4'⟩ := strs5_at V0 ⟨#[]⟩ ⟨#[101, 97, 114, 110]⟩ ⟨#[116, 97, 107, 101]⟩ ⟨#[116, 97, 120]⟩ ⟨#[108, 101, 116]⟩ 9;generalize V0.alloc (.cells #[.string ⟨#[]⟩, .string ⟨#[101, 97, 114, 110]⟩, .string ⟨#[116, 97, 107, 101]⟩, .string ⟨#[116, 97, 120]⟩, .string ⟨#[108, 101, 116]⟩] 9) = V1 at hbx s1' s2' s3' s4' ⊢;replace HX := Hd (HX.out.below hbx);clear t0 t1 ft0 ft1;obtain ⟨⟨t0, t1⟩, ft0, ft1⟩ := HX.out.t.pair;clear hbx;refine hK.out _ _ ⟨t0, t1⟩ (fun hHeld => ?_);clear hK K
            try simp only [Act.put, layS]
            refine tkH 4 (.pointer (some ⟨V0.heap.size, 4, none⟩)) rfl (fun w' hSw => ?_) ?_
            ·((try dsimp only at hSw); go_simp; try with_reducible rfl)
            try simp only [Act.put, layS]
            refine rd1 5 rfl (fun K hK => ?_);go_simp;refine hK.out _ _ ⟨t0, t1⟩ (fun hHeld => ?_);clear hK K
            try simp only [Act.put, layS]
            refine rd1 6 rfl (fun K hK => ?_);go_simp;refine (is_ref L g n c z k ⟨#[108, 101, 116]⟩ _ HX.out.tk HN.out).mono ?_;rintro e w5 ⟨rfl, hb⟩;clear hHeld;rw [HFO.out.2.2.2];replace HX := Hd (HX.out.below hb);clear t0 t1 ft0 ft1;obtain ⟨⟨t0, t1⟩, ft0, ft1⟩ := HX.out.t.pair;clear hb
            try go_wp2_with fail
            refine hK.out _ _ ⟨t0, t1⟩ (fun hHeld => ?_);clear hK K
            try simp only [Act.put, layS]
            clear hHeld;refine wpAnyH_done (by kernel_rfl) ?_ _
            by_cases hq : t = 4
            ·rw [decide_eq_true hq];have HQ : Hid (wyT t 5 = 4) := Hd (wyT_hit hq (by omega));clear hq;clear t0 t1 ft0 ft1;go_wp2_with fail
             go_roundw
             case rel => exact .inr (.inr (.inr (.inr ⟨by first | rfl | go_num, by rw [HQ.out], HX.out⟩)))
             case measure => simp [intOf]
            ·rw [dEf hq];have HQ : Hid (wyT t 5 = wyT t 4) := Hd (wyT_miss hq (by omega));clear hq;clear t0 t1 ft0 ft1;go_wp2_with fail
             go_roundw
             case rel => exact .inr (.inr (.inr (.inr ⟨by first | rfl | go_num, by rw [HQ.out], HX.out⟩)))
             case measure => simp [intOf]
           ·obtain ⟨rfl, rfl, hX⟩ := hin;have HX := Hd hX;clear hX;obtain ⟨⟨t0, t1⟩, ft0, ft1⟩ := HX.out.t.pair;rw [wyT_5 HBD.out.2];have ht0 : (t == 0) = false := by have := HBD.out; simp; omega
            have ht1 : decide (t = 0) = false := dEf (by have := HBD.out; omega);obtain ⟨v0, v1, v2', v3, v4⟩ := HX.out.tk.2 k1 HNAM.out.2.2;rw [HNAM.out.1] at v0;rw [HNAM.out.2.1] at v1;go_wp2_with fail
            refine (is_ref L g n c z k2 ⟨#[61]⟩ _ HX.out.tk HN.out).mono ?_;rintro e w5 ⟨rfl, hb⟩;rw [j2];replace HX := Hd (HX.out.below hb);clear t0 t1 ft0 ft1;obtain ⟨⟨t0, t1⟩, ft0, ft1⟩ := HX.out.t.pair;clear hb v0 v1 v2' v3 v4;go_wp2_with fail
            go_cut [11] from 83 to 88 (fun rv wx => ∃ (rb : Nat) (a6 : Option Addr) (c6 : Nat), rv = .pointer (some ⟨rb, 0, none⟩) /\ PlB w wx tb g n c z L M (.slice xo M.length co) /\ Bxs wx rb (rdL xe a6 c6 kf) /\ KidsP wx (fun b => w5.heap.size <= b /\ b ≠ rb) xe a6 /\ w5.heap.size <= rb /\ rb < wx.heap.size)
            case first =>
             have HXS : Hid (tb < w5.heap.size /\ ∀ k, (Value.slice xo M.length co).ownBlock = some k -> k < w5.heap.size) := Hd ⟨HX.out.lt, fun k hk => (HX.out.gr.lt k hk).2⟩;have HKD : Hid (∀ V, Below w5.heap.size w5 V -> ∀ j, j < M.length -> KidsP V (fun b => (tb < b /\ some b ≠ (Value.slice xo M.length co).ownBlock) /\ b < w5.heap.size) (lcth M j).l.ex (lcth M j).a) := Hd (fun V hV j hj => ((HX.out.kd j hj).mono fun b hb hB => ⟨hb, hB⟩).below hV);have HB5 : Hid (Below w5.heap.size w5 w5.drew) := Hd (kbelow_dN (Below.refl _ _) 1);refine wp_region_held_drew (S := fun w' => w'.cell? ⟨tb, 0, none⟩ = some (.slice (some ⟨g, 0, none⟩) n c) /\ w'.cell? ⟨tb, 1, none⟩ = some (.int .i64 z)) (by kernel_rfl) ⟨t0, t1⟩ (fun hHeld => ?_);generalize w5.drew = V0 at HB5 hHeld ⊢;replace HX := Hd (HX.out.below HB5.out);clear t0 t1 ft0 ft1;obtain ⟨⟨t0, t1⟩, ft0, ft1⟩ := HX.out.t.pair;refine tkH 0 (.agg #[.slice (some ⟨g, 0, none⟩) n c, .int .i64 z]) rfl (fun w' hSw => ?_) ?_
             ·((try dsimp only at hSw); go_simp; try with_reducible rfl)
             try simp only [Act.put, layS]
             refine tkH 1 (.agg #[.slice (some ⟨g, 0, none⟩) n c, .int .i64 z]) rfl (fun w' hSw => ?_) ?_
             ·((try dsimp only at hSw); go_simp; try with_reducible rfl)
             try simp only [Act.put, layS]
             refine tkH 2 (.int .i64 (k : Int)) rfl (fun w' hSw => ?_) ?_
             ·((try dsimp only at hSw); go_simp; try with_reducible rfl)
             try simp only [Act.put, layS]
             refine tkH 3 (.int .i64 (k3 : Int)) rfl (fun w' hSw => ?_) ?_
             ·((try dsimp only at hSw); go_simp; try with_reducible rfl)
             try simp only [Act.put, layS]
             refine rd2 4 6 rfl (fun K hK => ?_) rfl (fun K hK => ?_)
             ·go_simp;refine (HOP.out _ HX.out.tk).mono ?_;rintro e w6 ⟨a6, c6, rfl, hk6, hb⟩;clear hHeld;have HK := Hd (hk6.mono (Q := fun b => w5.heap.size <= b) (fun b hb _ => by have h5 := HB5.out.size; have hb' : V0.heap.size <= b := hb; first | exact Nat.le_trans h5 hb' | exact ⟨Nat.le_trans h5 hb', by have := HRL.out; omega⟩));replace HB5 := Hd (HB5.out.trans (hb.mono HB5.out.size));clear hk6;replace HX := Hd (HX.out.below hb);clear t0 t1 ft0 ft1;obtain ⟨⟨t0, t1⟩, ft0, ft1⟩ := HX.out.t.pair;clear hb
              try go_wp2_with fail
              refine hK.out _ _ ⟨t0, t1⟩ (fun hHeld => ?_);clear hK K
              try simp only [Act.put, layS]
              refine rd2 5 6 rfl (fun K hK => ?_) rfl (fun K hK => ?_)
              ·go_simp;refine (HM.out _ a6 c6 HX.out.tk).mono ?_;rintro e w7 ⟨rfl, hb⟩;clear hHeld;replace HB5 := Hd (HB5.out.trans (hb.mono HB5.out.size));replace HX := Hd (HX.out.below hb);clear t0 t1 ft0 ft1;obtain ⟨⟨t0, t1⟩, ft0, ft1⟩ := HX.out.t.pair;replace HK := Hd (HK.out.below hb);clear hb;unfold rdV
               try go_wp2_with fail
               refine hK.out _ _ ⟨t0, t1⟩ (fun hHeld => ?_);clear hK K
               try simp only [Act.put, layS]
               refine rd1 6 rfl (fun K hK => ?_);go_simp;have hbx := kbelow_box w7 (.cells #[.int .i64 0, .int .i64 0, .string ⟨#[]⟩, .slice none 0 0, .int .i64 0, .int .i64 0, .int .i64 0] 122);have HRB := Hd (Bxs.made w7 rd0 122);have HRL : Hid (w7.heap.size < (w7.alloc (.cells #[.int .i64 0, .int .i64 0, .string ⟨#[]⟩, .slice none 0 0, .int .i64 0, .int .i64 0, .int .i64 0] 122)).heap.size) := Hd (by simp);have HRG : Hid (w5.heap.size <= w7.heap.size) := Hd HB5.out.size;obtain ⟨rb, hrb⟩ : ∃ rb, w7.heap.size = rb := ⟨_, rfl⟩;unfold rd0 at HRB;generalize w7.alloc (.cells #[.int .i64 0, .int .i64 0, .string ⟨#[]⟩, .slice none 0 0, .int .i64 0, .int .i64 0, .int .i64 0] 122) = V8 at hbx HRB HRL ⊢;rw [hrb] at HRB HRL HRG ⊢;replace HB5 := Hd (HB5.out.trans (hbx.mono HB5.out.size));replace HX := Hd (HX.out.below hbx);clear t0 t1 ft0 ft1;obtain ⟨⟨t0, t1⟩, ft0, ft1⟩ := HX.out.t.pair;replace HK := Hd ((HK.out.mono (Q := fun b => w5.heap.size <= b /\ b ≠ rb) (fun b hb hB => ⟨hb, by omega⟩)).below hbx);clear hbx;refine hK.out _ _ ⟨t0, t1⟩ (fun hHeld => ?_);clear hK K
               try simp only [Act.put, layS]
               refine rd1 7 rfl (fun K hK => ?_);obtain ⟨⟨r0, r1, r2, r3, r4, r5, r6⟩, fr0, fr1, fr2, fr3, fr4, fr5, fr6⟩ := HRB.out.seven;have hrg := HRG.out;have hp := HX.out.put (rb := rb) (Nat.lt_of_lt_of_le HXS.out.1 hrg) (fun e => by have := HXS.out.2 rb e.symm; omega) (fun j hj => (HKD.out _ HB5.out j hj).mono fun b hb _ => ⟨hb.1, by omega⟩) (rdL xe a6 c6 kf);have hv := HRB.out.put (rdL xe a6 c6 kf) rfl;have hk := HK.out.put (c := rb) (fun b hb => hb.2) 0 (rdL xe a6 c6 kf);have hz : rb < (putL V8 rb 0 (rdL xe a6 c6 kf)).heap.size := by rw [putL_size]; exact HRL.out
               simp only [rdL, putL, Nat.zero_add, Nat.reduceAdd] at hp hv hk hz;have HFIN := Hd (And.intro hp (And.intro hv (And.intro hk hz)));clear hp hv hk hz
               try go_wp2_with fail
               go_simp;refine hK.out _ _ HFIN.out.1.t.pair.1 (fun hHeld => ?_);clear hK K hHeld;refine wpAnyH_done (by kernel_rfl) ?_ _
               try go_wp2_with fail
               go_meet;exact ⟨rb, a6, c6, rfl, HFIN.out.1, HFIN.out.2.1, HFIN.out.2.2.1, hrg, HFIN.out.2.2.2⟩
              ·go_simp;have hbx := kbelow_box w6 (.cells #[.int .i64 0, .int .i64 0, .string ⟨#[]⟩, .slice none 0 0, .int .i64 0, .int .i64 0, .int .i64 0] 122);have HRB := Hd (Bxs.made w6 rd0 122);have HRL : Hid (w6.heap.size < (w6.alloc (.cells #[.int .i64 0, .int .i64 0, .string ⟨#[]⟩, .slice none 0 0, .int .i64 0, .int .i64 0, .int .i64 0] 122)).heap.size) := Hd (by simp);have HRG : Hid (w5.heap.size <= w6.heap.size) := Hd HB5.out.size;obtain ⟨rb, hrb⟩ : ∃ rb, w6.heap.size = rb := ⟨_, rfl⟩;unfold rd0 at HRB;generalize w6.alloc (.cells #[.int .i64 0, .int .i64 0, .string ⟨#[]⟩, .slice none 0 0, .int .i64 0, .int .i64 0, .int .i64 0] 122) = V7 at hbx HRB HRL ⊢;rw [hrb] at HRB HRL HRG ⊢;replace HB5 := Hd (HB5.out.trans (hbx.mono HB5.out.size));replace HX := Hd (HX.out.below hbx);clear t0 t1 ft0 ft1;obtain ⟨⟨t0, t1⟩, ft0, ft1⟩ := HX.out.t.pair;replace HK := Hd ((HK.out.mono (Q := fun b => w5.heap.size <= b /\ b ≠ rb) (fun b hb hB => ⟨hb, by omega⟩)).below hbx);clear hbx;refine hK.out _ _ ⟨t0, t1⟩ (fun hHeld => ?_);clear hK K
               try simp only [Act.put, layS]
               refine rd1 5 rfl (fun K hK => ?_);go_simp;refine (HM.out _ a6 c6 HX.out.tk).mono ?_;rintro e w8 ⟨rfl, hb⟩;clear hHeld;replace HB5 := Hd (HB5.out.trans (hb.mono HB5.out.size));replace HX := Hd (HX.out.below hb);clear t0 t1 ft0 ft1;obtain ⟨⟨t0, t1⟩, ft0, ft1⟩ := HX.out.t.pair;replace HRB := Hd (HRB.out.below hb HRL.out);replace HRL := Hd (Nat.lt_of_lt_of_le HRL.out (hb).size);replace HK := Hd (HK.out.below hb);clear hb;unfold rdV
               try go_wp2_with fail
               refine hK.out _ _ ⟨t0, t1⟩ (fun hHeld => ?_);clear hK K
               try simp only [Act.put, layS]
               refine rd1 7 rfl (fun K hK => ?_);obtain ⟨⟨r0, r1, r2, r3, r4, r5, r6⟩, fr0, fr1, fr2, fr3, fr4, fr5, fr6⟩ := HRB.out.seven;have hrg := HRG.out;have hp := HX.out.put (rb := rb) (Nat.lt_of_lt_of_le HXS.out.1 hrg) (fun e => by have := HXS.out.2 rb e.symm; omega) (fun j hj => (HKD.out _ HB5.out j hj).mono fun b hb _ => ⟨hb.1, by omega⟩) (rdL xe a6 c6 kf);have hv := HRB.out.put (rdL xe a6 c6 kf) rfl;have hk := HK.out.put (c := rb) (fun b hb => hb.2) 0 (rdL xe a6 c6 kf);have hz : rb < (putL w8 rb 0 (rdL xe a6 c6 kf)).heap.size := by rw [putL_size]; exact HRL.out
               simp only [rdL, putL, Nat.zero_add, Nat.reduceAdd] at hp hv hk hz;have HFIN := Hd (And.intro hp (And.intro hv (And.intro hk hz)));clear hp hv hk hz
               try go_wp2_with fail
               go_simp;refine hK.out _ _ HFIN.out.1.t.pair.1 (fun hHeld => ?_);clear hK K hHeld;refine wpAnyH_done (by kernel_rfl) ?_ _
               try go_wp2_with fail
               go_meet;exact ⟨rb, a6, c6, rfl, HFIN.out.1, HFIN.out.2.1, HFIN.out.2.2.1, hrg, HFIN.out.2.2.2⟩
             ·go_simp;have hbx := kbelow_box V0 (.cells #[.int .i64 0, .int .i64 0, .string ⟨#[]⟩, .slice none 0 0, .int .i64 0, .int .i64 0, .int .i64 0] 122);have HRB := Hd (Bxs.made V0 rd0 122);have HRL : Hid (V0.heap.size < (V0.alloc (.cells #[.int .i64 0, .int .i64 0, .string ⟨#[]⟩, .slice none 0 0, .int .i64 0, .int .i64 0, .int .i64 0] 122)).heap.size) := Hd (by simp);have HRG : Hid (w5.heap.size <= V0.heap.size) := Hd HB5.out.size;obtain ⟨rb, hrb⟩ : ∃ rb, V0.heap.size = rb := ⟨_, rfl⟩;unfold rd0 at HRB;generalize V0.alloc (.cells #[.int .i64 0, .int .i64 0, .string ⟨#[]⟩, .slice none 0 0, .int .i64 0, .int .i64 0, .int .i64 0] 122) = V1 at hbx HRB HRL ⊢;rw [hrb] at HRB HRL HRG ⊢;replace HB5 := Hd (HB5.out.trans (hbx.mono HB5.out.size));replace HX := Hd (HX.out.below hbx);clear t0 t1 ft0 ft1;obtain ⟨⟨t0, t1⟩, ft0, ft1⟩ := HX.out.t.pair;clear hbx;refine hK.out _ _ ⟨t0, t1⟩ (fun hHeld => ?_);clear hK K
              try simp only [Act.put, layS]
              refine rd1 4 rfl (fun K hK => ?_);go_simp;refine (HOP.out _ HX.out.tk).mono ?_;rintro e w6 ⟨a6, c6, rfl, hk6, hb⟩;clear hHeld;have HK := Hd (hk6.mono (Q := fun b => w5.heap.size <= b∧ b ≠ rb) (fun b hb _ => by have h5 := HB5.out.size; have hb' : V1.heap.size <= b := hb; first | exact Nat.le_trans h5 hb' | exact ⟨Nat.le_trans h5 hb', by have := HRL.out; omega⟩));replace HB5 := Hd (HB5.out.trans (hb.mono HB5.out.size));clear hk6;replace HX := Hd (HX.out.below hb);clear t0 t1 ft0 ft1;obtain ⟨⟨t0, t1⟩, ft0, ft1⟩ := HX.out.t.pair;replace HRB := Hd (HRB.out.below hb HRL.out);replace HRL := Hd (Nat.lt_of_lt_of_le HRL.out (hb).size);clear hb
              try go_wp2_with fail
              refine hK.out _ _ ⟨t0, t1⟩ (fun hHeld => ?_);clear hK K
              try simp only [Act.put, layS]
              refine rd1 5 rfl (fun K hK => ?_);go_simp;refine (HM.out _ a6 c6 HX.out.tk).mono ?_;rintro e w7 ⟨rfl, hb⟩;clear hHeld;replace HB5 := Hd (HB5.out.trans (hb.mono HB5.out.size));replace HX := Hd (HX.out.below hb);clear t0 t1 ft0 ft1;obtain ⟨⟨t0, t1⟩, ft0, ft1⟩ := HX.out.t.pair;replace HRB := Hd (HRB.out.below hb HRL.out);replace HRL := Hd (Nat.lt_of_lt_of_le HRL.out (hb).size);replace HK := Hd (HK.out.below hb);clear hb;unfold rdV
              try go_wp2_with fail
              refine hK.out _ _ ⟨t0, t1⟩ (fun hHeld => ?_);clear hK K
              try simp only [Act.put, layS]
              refine rd1 7 rfl (fun K hK => ?_);obtain ⟨⟨r0, r1, r2, r3, r4, r5, r6⟩, fr0, fr1, fr2, fr3, fr4, fr5, fr6⟩ := HRB.out.seven;have hrg := HRG.out;have hp := HX.out.put (rb := rb) (Nat.lt_of_lt_of_le HXS.out.1 hrg) (fun e => by have := HXS.out.2 rb e.symm; omega) (fun j hj => (HKD.out _ HB5.out j hj).mono fun b hb _ => ⟨hb.1, by omega⟩) (rdL xe a6 c6 kf);have hv := HRB.out.put (rdL xe a6 c6 kf) rfl;have hk := HK.out.put (c := rb) (fun b hb => hb.2) 0 (rdL xe a6 c6 kf);have hz : rb < (putL w7 rb 0 (rdL xe a6 c6 kf)).heap.size := by rw [putL_size]; exact HRL.out
              simp only [rdL, putL, Nat.zero_add, Nat.reduceAdd] at hp hv hk hz;have HFIN := Hd (And.intro hp (And.intro hv (And.intro hk hz)));clear hp hv hk hz
              try go_wp2_with fail
              go_simp;refine hK.out _ _ HFIN.out.1.t.pair.1 (fun hHeld => ?_);clear hK K hHeld;refine wpAnyH_done (by kernel_rfl) ?_ _
              try go_wp2_with fail
              go_meet;exact ⟨rb, a6, c6, rfl, HFIN.out.1, HFIN.out.2.1, HFIN.out.2.2.1, hrg, HFIN.out.2.2.2⟩
            case rest =>
             clear t0 t1 ft0 ft1;obtain ⟨rb, a6, c6, rfl, hp, hv, hk, hg5, hl⟩ := hcut;have HKO : Hid (∀ b, w5.heap.size <= b -> tb < b /\ some b ≠ (Value.slice xo M.length co).ownBlock) := Hd (fun b hb => ⟨Nat.lt_of_lt_of_le HX.out.lt hb, fun e => by have := (HX.out.gr.lt b e.symm).2; omega⟩);clear HX;have HX := Hd hp;have HV := Hd hv;have HK := Hd hk;have HRL := Hd hl;clear hp hv hk hl;obtain ⟨⟨t0, t1⟩, ft0, ft1⟩ := HX.out.t.pair;obtain ⟨⟨r0, r1, r2, r3, r4, r5, r6⟩, fr0, fr1, fr2, fr3, fr4, fr5, fr6⟩ := HV.out.seven;have HDE := Hd (depth_ref xe a6 c6 20 wc (by omega) HK.out.kids);go_wp2_with fail
             refine HDE.out.mono ?_;rintro e w8 ⟨rfl, hb⟩;have hcd : ¬ (20 : Int) < ((cutN xe.depth 20 : Nat) : Int) := by have := HDP.out.1; unfold cutN; omega
             replace HX := Hd (HX.out.below hb);clear t0 t1 ft0 ft1;obtain ⟨⟨t0, t1⟩, ft0, ft1⟩ := HX.out.t.pair;replace HV := Hd (HV.out.below hb HRL.out);replace HK := Hd (HK.out.below hb);replace HRL := Hd (Nat.lt_of_lt_of_le HRL.out hb.size);clear hb HDE r0 r1 r2 r3 r4 r5 r6 fr0 fr1 fr2 fr3 fr4 fr5 fr6;generalize cutN xe.depth 20 = dp at hcd ⊢;go_wp2_with fail
             have HB9 : Hid (Below w8.heap.size w8 w8.drew) := Hd (kbelow_dN (Below.refl _ _) 1);obtain ⟨v0, v1, -⟩ := HX.out.tk.2 k1 HNAM.out.2.2;rw [HNAM.out.2.1] at v1;obtain ⟨⟨r0, r1, r2, r3, r4, r5, r6⟩, -⟩ := HV.out.seven;refine wp_region_held_drew (S := fun w' => w'.cell? ⟨g, k1 * 5 + 1, none⟩ = some (.string nm) /\ w'.cell? ⟨rb, 0, none⟩ = some (.int .i64 xe.k) /\ w'.cell? ⟨rb, 1, none⟩ = some (.int .i64 xe.n) /\ w'.cell? ⟨rb, 2, none⟩ = some (.string xe.s) /\ w'.cell? ⟨rb, 3, none⟩ = some (.slice a6 xe.m c6)) (by kernel_rfl) ⟨v1, r0, r1, r2, r3⟩ (fun hHeld => ?_);clear v0 v1 r0 r1 r2 r3 r4 r5 r6;generalize w8.drew = V0 at HB9 hHeld ⊢;replace HX := Hd (HX.out.below HB9.out);replace HV := Hd (HV.out.below HB9.out HRL.out);replace HK := Hd (HK.out.below HB9.out);replace HRL := Hd (Nat.lt_of_lt_of_le HRL.out HB9.out.size);clear t0 t1 ft0 ft1;clear HB9;refine tkH 0 (.slice xo M.length co) rfl (fun w' hSw => ?_) ?_
             ·((try dsimp only at hSw); go_simp; try with_reducible rfl)
             try simp only [Act.put, layS]
             refine tkH 1 (.int .i64 t) rfl (fun w' hSw => ?_) ?_
             ·((try dsimp only at hSw); go_simp; try with_reducible rfl)
             try simp only [Act.put, layS]
             refine tkH 2 (.slice (some ⟨g, 0, none⟩) n c) rfl (fun w' hSw => ?_) ?_
             ·((try dsimp only at hSw); go_simp; try with_reducible rfl)
             try simp only [Act.put, layS]
             refine tkH 3 (.int .i64 (k : Int)) rfl (fun w' hSw => ?_) ?_
             ·((try dsimp only at hSw); go_simp; try with_reducible rfl)
             try simp only [Act.put, layS]
             refine tkH 4 (.int .i64 (k1 : Int)) rfl (fun w' hSw => ?_) ?_
             ·((try dsimp only at hSw); go_simp; try with_reducible rfl)
             try simp only [Act.put, layS]
             refine tkH 5 (.pointer (some ⟨g, k1 * 5, none⟩)) rfl (fun w' hSw => ?_) ?_
             ·((try dsimp only at hSw); go_simp; try with_reducible rfl)
             try simp only [Act.put, layS]
             refine tkH 6 (.pointer (some ⟨g, k1 * 5 + 1, none⟩)) rfl (fun w' hSw => ?_) ?_
             ·((try dsimp only at hSw); go_simp; try with_reducible rfl)
             try simp only [Act.put, layS]
             refine tkH 7 (.string nm) rfl (fun w' hSw => ?_) ?_
             ·((try dsimp only at hSw); go_simp; try with_reducible rfl)
             try simp only [Act.put, layS]
             refine tkH 8 (.pointer (some ⟨rb, 0, none⟩)) rfl (fun w' hSw => ?_) ?_
             ·((try dsimp only at hSw); go_simp; try with_reducible rfl)
             try simp only [Act.put, layS]
             refine tkH 9 (.agg #[.int .i64 xe.k, .int .i64 xe.n, .string xe.s, .slice a6 xe.m c6]) rfl (fun w' hSw => ?_) ?_
             ·((try dsimp only at hSw); go_simp; try with_reducible rfl)
             try simp only [Act.put, layS]
             refine tkH 10 (.agg #[.int .i64 t, .string nm, .int .i64 xe.k, .int .i64 xe.n, .string xe.s, .slice a6 xe.m c6]) rfl (fun w' hSw => ?_) ?_
             ·((try dsimp only at hSw); go_simp; try with_reducible rfl)
             try simp only [Act.put, layS]
             refine rd1 11 rfl (fun K hK => ?_);go_simp;have hbx := kbelow_box V0 (.cells #[.int .i64 t, .string nm, .int .i64 xe.k, .int .i64 xe.n, .string xe.s, .slice a6 xe.m c6] 52);have HGA := Hd (HX.out.gr.alloc (.cells #[.int .i64 t, .string nm, .int .i64 xe.k, .int .i64 xe.n, .string xe.s, .slice a6 xe.m c6] 52));have HSRC := Hd (Bxs.made V0 (lnL ⟨t, nm, xe⟩ a6 c6) 52);have HZA : Hid (tb + 1 <= (V0.alloc (.cells #[.int .i64 t, .string nm, .int .i64 xe.k, .int .i64 xe.n, .string xe.s, .slice a6 xe.m c6] 52)).heap.size) := by have := HX.out.lt; unfold Hid; simp; omega
             obtain ⟨-, v1, -⟩ := (HX.out.tk.below hbx HX.out.tk.1).2 k1 HNAM.out.2.2;rw [HNAM.out.2.1] at v1;obtain ⟨⟨r0, r1, r2, r3, r4, r5, r6⟩, -⟩ := (HV.out.below hbx HRL.out).seven;refine hK.out _ _ ⟨v1, r0, r1, r2, r3⟩ (fun hHeld => ?_);clear hK K
             try simp only [Act.put, layS]
             clear v1 r0 r1 r2 r3 r4 r5 r6 hbx hHeld;refine rd1 12 rfl (fun K hK => ?_);refine step_app_ln _ rfl (.tmp 103) (.tmp 114) rfl (tb + 1) (.slice xo M.length co) M (by simp [Act.eval]) HGA.out V0.heap.size 1 ⟨⟨t, nm, xe⟩, a6, c6⟩ (by simp [Act.eval]) HSRC.out (by omega) HZA.out ?_;intro v9 w9 hg9 hr9 hv9;have HX9 := Hd (HX.out.app (r := ⟨⟨t, nm, xe⟩, a6, c6⟩) (HK.out.mono fun b hb _ => HKO.out b hb.1) (by have h9 : nm.size <= 8 := HOK.out.2.1.2.1; show nm.size <= maxLen; unfold maxLen; omega) hg9 hr9 hv9);obtain ⟨x9, c9, rfl⟩ := hg9.slice;have hro : some rb ≠ (Value.slice xo M.length co).ownBlock := (HKO.out rb hg5).2;have hrb9 : w9.heap[rb]? = V0.heap[rb]? := (hr9.block rb (by have := HRL.out; simp; omega) hro).trans ((kbelow_box V0 _).block rb HRL.out);obtain ⟨⟨r0, r1, r2, r3, r4, r5, r6⟩, -⟩ := (HV.out.to hrb9).seven;obtain ⟨-, v1, -⟩ := HX9.out.tk.2 k1 HNAM.out.2.2;rw [HNAM.out.2.1] at v1;clear hg9 hr9 hv9 HGA HSRC HZA HV HK HX hro hrb9;refine hK.out _ _ ⟨v1, r0, r1, r2, r3⟩ (fun hHeld => ?_);clear hK K
             try simp only [Act.put, layS]
             refine rd1 13 rfl (fun K hK => ?_);go_simp;refine hK.out _ _ ⟨v1, r0, r1, r2, r3⟩ (fun hHeld => ?_);clear hK K
             try simp only [Act.put, layS]
             clear hHeld;refine wpAnyH_done (by kernel_rfl) ?_ _;clear v1 r0 r1 r2 r3 r5 r6;go_wp2_with fail
             go_roundw
             case rel => exact ⟨kf, f, M ++ [⟨⟨t, nm, xe⟩, a6, c6⟩], R2, by first | rfl | go_num, by have h9 := HX9.out; rw [List.length_append] at h9; exact h9, by rw [List.length_append]; exact HR2.out, by rw [List.map_append, List.append_assoc]; exact HML.out, by have := HOK.out.2.2.2.2.2.2; have := HDP.out; omega, by rw [List.length_append]; simp only [List.length_cons, List.length_nil]; omega⟩
             case measure =>
              have h1 := HOK.out.2.2.2.2.2;have h2 := HDP.out;have h3 := HRK.out.len;have h4 := HN.out;simp [intOf];omega
        ·cases hln
       ·cases hln
    ·obtain rfl : k = n := by omega
     have hlt' : ¬ ((k : Nat) : Int) < (k : Int) := by omega
     rw [if_pos (by omega)] at hR;injection hR with hR
     subst hR;rw [List.append_nil] at hML;subst hML;obtain ⟨xo, co, hv⟩ := hX.gr.slice;subst hv;have HX := Hd hX;have HC := Hd (GrowN.came (B := tb + 1) hX.gr (fun j hj => (hX.kd j hj).mono fun b hb _ => ⟨by omega, hb.2⟩) hX.nm);obtain ⟨⟨f0, f1⟩, f2, f3⟩ := hX.o.pair;obtain ⟨q0, q1⟩ := rk_put2 (.int .i64 0) (.int .i64 0) f0 f1;clear hX;go_wp2_with fail
     refine bodyPost_ret (v := .tuple #[.slice xo M.length co, .agg #[.int .i64 0, .int .i64 0]]) (by simp [results, Tryz.results21, go_sem, q0, q1] <;> rfl) rfl ?_;have hgt := HX.out.gt;refine ⟨xo, co, by rw [List.length_map], (HC.out.to (B' := tb + 1) (fun b hb _ => (Below.heap_setCell _ ⟨w.heap.size, 1, none⟩ _ b (by simp; omega)).trans (Below.heap_setCell _ ⟨w.heap.size, 0, none⟩ _ b (by simp; omega))) (by simp) (Nat.le_refl _)).came, (HX.out.bel.setCell (p := ⟨w.heap.size, 0, none⟩) (Nat.le_refl _) _).setCell (p := ⟨w.heap.size, 1, none⟩) (Nat.le_refl _) _⟩
theorem parseLines_none (s : ByteArray) (w : World) (hTk : Toks s s.size []) (hs : s.size <= 4000) :
 Calls Tryz.prog 21 #[.string s] w fun e w' => RpR w [] e w' := by
 have HTR := Hd (tokens_ref s [] (w.alloc (.cells #[.int .i64 0, .int .i64 0] 42)) hTk hs);have HB0 := Hd (kbelow_box w (.cells #[.int .i64 0, .int .i64 0] 42));have HO0 := Hd (Bxs.made w [.int .i64 0, .int .i64 0] 42);clear hTk hs
 go_enter Tryz.func21, Tryz.ntmps21
 go_wp2_with fail
 refine HTR.out.mono ?_;rintro e w1 ⟨v1, rfl, hg1, hb1⟩
 rcases hg1.form with ⟨rfl, -⟩ | ⟨g, c, rfl, hBg, hTA⟩
 ·have HB1 := Hd (HB0.out.trans (hb1.mono HB0.out.size));have HO1 := Hd (HO0.out.below hb1 (by simp));have hz1 : w.heap.size < w1.heap.size := by have := hb1.size; simp at this; omega
  have HZ := Hd hz1;clear hg1 hb1 HTR HB0 HO0;go_wp2_with fail
  have hb2 := kbelow_box w1 (.cells #[.int .i64 0, .int .i64 0] 42);have HX0 := Hd (hb2.alloc (by simp) (.cells #[.slice none 0 0, .int .i64 (s.size : Int)] 118));clear hb2;generalize ((w1.alloc (.cells #[.int .i64 0, .int .i64 0] 42)).alloc (.cells #[.slice none 0 0, .int .i64 (s.size : Int)] 118)) = v2 at HX0 ⊢
  go_loopw [7, 8] (fun v iv wr => v = .slice none 0 0 /\ iv = .int .i64 0 /\ Below w1.heap.size w1 wr) (fun _ _ _ => 0)
  case atStart => exact ⟨rfl, rfl, HX0.out⟩
  case round =>
   clear HX0;obtain ⟨rfl, rfl, hb⟩ := hrel;have HB := Hd (HB1.out.trans (hb.mono HB1.out.size));obtain ⟨⟨f0, f1⟩, f2, f3⟩ := (HO1.out.below hb HZ.out).pair;obtain ⟨q0, q1⟩ := rk_put2 (.int .i64 0) (.int .i64 0) f0 f1;clear hb;go_wp2_with fail
   refine bodyPost_ret (v := .tuple #[.slice none 0 0, .agg #[.int .i64 0, .int .i64 0]]) (by simp [results, Tryz.results21, go_sem, q0, q1] <;> rfl) rfl ?_;exact ⟨none, 0, rfl, .inl rfl, (HB.out.setCell (p := ⟨w.heap.size, 0, none⟩) (Nat.le_refl _) _).setCell (p := ⟨w.heap.size, 1, none⟩) (Nat.le_refl _) _⟩
 ·obtain ⟨_, h2⟩ := hg1
  rcases h2 with ⟨h3, _⟩ | ⟨g', c', cur, h3, h4, _⟩
  ·cases h3
  ·have HB1 := Hd (HB0.out.trans (hb1.mono HB0.out.size));have HO1 := Hd (HO0.out.below hb1 (by simp));have hz1 : w.heap.size < w1.heap.size := by have := hb1.size; simp at this; omega
   have HZ := Hd hz1;clear hb1 HTR HB0 HO0 h3 h4 hBg hTA;have hl0 : ([] : List Tk).length = 0 := rfl;rw [hl0];go_wp2_with fail
   have hb2 := kbelow_box w1 (.cells #[.int .i64 0, .int .i64 0] 42);have HX0 := Hd (hb2.alloc (by simp) (.cells #[.slice (some ⟨g, 0, none⟩) 0 c, .int .i64 (s.size : Int)] 118));clear hb2;generalize ((w1.alloc (.cells #[.int .i64 0, .int .i64 0] 42)).alloc (.cells #[.slice (some ⟨g, 0, none⟩) 0 c, .int .i64 (s.size : Int)] 118)) = v2 at HX0 ⊢
   go_loopw [7, 8] (fun v iv wr => v = .slice none 0 0 /\ iv = .int .i64 0 /\ Below w1.heap.size w1 wr) (fun _ _ _ => 0)
   case atStart => exact ⟨rfl, rfl, HX0.out⟩
   case round =>
    clear HX0;obtain ⟨rfl, rfl, hb⟩ := hrel;have HB := Hd (HB1.out.trans (hb.mono HB1.out.size));obtain ⟨⟨f0, f1⟩, f2, f3⟩ := (HO1.out.below hb HZ.out).pair;obtain ⟨q0, q1⟩ := rk_put2 (.int .i64 0) (.int .i64 0) f0 f1;clear hb;go_wp2_with fail
    refine bodyPost_ret (v := .tuple #[.slice none 0 0, .agg #[.int .i64 0, .int .i64 0]]) (by simp [results, Tryz.results21, go_sem, q0, q1] <;> rfl) rfl ?_;exact ⟨none, 0, rfl, .inl rfl, (HB.out.setCell (p := ⟨w.heap.size, 0, none⟩) (Nat.le_refl _) _).setCell (p := ⟨w.heap.size, 1, none⟩) (Nat.le_refl _) _⟩
end Go.Proofs.YtmlpedgcpffpnaaGreatDoor
