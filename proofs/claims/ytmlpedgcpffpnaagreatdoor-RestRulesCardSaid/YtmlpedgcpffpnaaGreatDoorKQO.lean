/-
  Promise F1: the parser: sums.
-/
import Derived.Test.YtmlpedgcpffpnaaGreatDoorKZ0
import Derived.Test.YtmlpedgcpffpnaaGreatDoorKQN
import Derived.Deep.RegionWith
set_option linter.unusedSimpArgs false
set_option maxRecDepth 100000
set_option maxHeartbeats 8000000
namespace Go.Proofs.YtmlpedgcpffpnaaGreatDoor
open Go.RowKit
def leftOf (w : World) (pb : Nat) : Nat := match w.cell? ⟨pb, 0, none⟩ with
 | some (.slice _ n _) => n
 | _ => 0
theorem PrA.left {w : World} {pb g k : Nat} {T : List Tk} (h : PrA w pb g T k) : leftOf w pb = T.length - k := by
 obtain ⟨⟨c, h⟩, _⟩ := h;unfold leftOf;rw [h.box]
theorem PEnv.lt {w : World} {pb : Nat} (h : PEnv w pb) : 1 < w.heap.size /\ 3 < w.heap.size := ⟨blt_of_cell (h.lw 0 (by omega)), blt_of_cell (h.ts 0 (by omega))⟩
theorem PEnv.to {w w' : World} {pb : Nat} (h : PEnv w pb) (h1 : w'.heap[1]? = w.heap[1]?) (h2 : w'.heap[3]? = w.heap[3]?) : PEnv w' pb :=
 ⟨fun j hj => (World.cell?_of_block (a := ⟨1, j, none⟩) h1).trans (h.lw j hj), fun j hj => (World.cell?_of_block (a := ⟨3, j, none⟩) h2).trans (h.ts j hj), h.nl, h.nt⟩
theorem Wk.put {w wi : World} {pb g k eb : Nat} {T : List Tk} (h : Wk w wi pb g T k) (hE : PEnv w pb) (he : w.heap.size < eb) (us : List Value) : Wk w (putL wi eb 0 us) pb g T k := by
 have := hE.lt;exact ⟨h.st.put (Nat.le_of_lt he) 0 us, h.bx.to (putL_block eb (by omega) us 0 wi), by rw [putL_size]; exact h.sz, h.en.to (putL_block eb (by omega) us 0 wi) (putL_block eb (by omega) us 0 wi)⟩
structure Var (w wi : World) (b : Nat) (x : Ex) (a : Option Addr) (c : Nat) : Prop where
 bx : Bxs wi b (exL x a c)
 lt : b < wi.heap.size
 gt : w.heap.size < b
 ks : KidsP wi (fun q => w.heap.size < q /\ q ≠ b) x a
theorem Var.made {w wi : World} {pb g k : Nat} {T : List Tk} {x : Ex} {a : Option Addr} {c : Nat} (h : Wk w wi pb g T k) (hk : KidsP wi (fun q => w.heap.size < q) x a) : Var w (wi.alloc (.cells #[.int .i64 x.k, .int .i64 x.n, .string x.s, .slice a x.m c] 50)) wi.heap.size x a c :=
 ⟨Bxs.made wi (exL x a c) _, by simp, h.sz, (hk.mono fun b hb hB => ⟨hb, by omega⟩ : KidsP wi (fun q => w.heap.size < q /\ q ≠ wi.heap.size) x a).below (kbelow_box _ _)⟩
theorem Var.step {w wi wj : World} {pb g k b : Nat} {T : List Tk} {x : Ex} {a : Option Addr} {c : Nat} (h : Var w wi b x a c) (hs : St wi wj pb g T k) (hp : pb < w.heap.size) : Var w wj b x a c :=
 ⟨h.bx.st hs h.lt (by have := h.gt; omega), Nat.lt_of_lt_of_le h.lt hs.size, h.gt, h.ks.gr hs.gr fun b hb => by omega⟩
theorem Var.below {w wi wj : World} {b : Nat} {x : Ex} {a : Option Addr} {c : Nat} (h : Var w wi b x a c) (hb : Below wi.heap.size wi wj) : Var w wj b x a c :=
 ⟨h.bx.below hb h.lt, Nat.lt_of_lt_of_le h.lt hb.size, h.gt, h.ks.below hb⟩
theorem Var.two {w wi : World} {pb g k eb : Nat} {T : List Tk} {x y : Ex} {a ay : Option Addr} {c cy : Nat} (h : Wk w wi pb g T k) (hE : PEnv w pb) (hx : Var w wi eb x a c) (hy : KidsP wi (fun q => w.heap.size < q /\ q ≠ eb) y ay) (kk : Int) (o : Obj) (U : TypeId) {V : World} (hV : putL wi eb 0 (exL (twoX kk x y) (some ⟨wi.heap.size + 1, 0, none⟩) 2) = V) :
 Wk w ((V.alloc o).alloc (.cells (exL x a c ++ exL y ay cy).toArray U)) pb g T k /\ Var w ((V.alloc o).alloc (.cells (exL x a c ++ exL y ay cy).toArray U)) eb (twoX kk x y) (some ⟨wi.heap.size + 1, 0, none⟩) 2 := by
 have hw := h.put hE hx.gt (exL (twoX kk x y) (some ⟨wi.heap.size + 1, 0, none⟩) 2);have hz := putL_size eb (exL (twoX kk x y) (some ⟨wi.heap.size + 1, 0, none⟩) 2) 0 wi;have hb := hx.bx.put (exL (twoX kk x y) (some ⟨wi.heap.size + 1, 0, none⟩) 2) rfl;have k1 := hx.ks.put (c := eb) (fun b hb => hb.2) 0 (exL (twoX kk x y) (some ⟨wi.heap.size + 1, 0, none⟩) 2);have k2 := hy.put (c := eb) (fun b hb => hb.2) 0 (exL (twoX kk x y) (some ⟨wi.heap.size + 1, 0, none⟩) 2);rw [hV] at hw hz hb k1 k2;have hs : (V.alloc o).heap.size = wi.heap.size + 1 := by simp [hz]
 have hl := hx.lt;have hg := hx.gt;refine ⟨(hw.box o).box _, (hb.below (kbelow_box _ o) (by omega)).below (kbelow_box _ _) (by rw [hs]; omega), by simp; omega, hg, ?_⟩;exact KidsP.two U kk (k1.below (kbelow_box _ o)) (k2.below (kbelow_box _ o)) (g := wi.heap.size + 1) hs.symm (by rw [hs]; exact ⟨by omega, by omega⟩)
theorem Var.one {w wi : World} {pb g k eb : Nat} {T : List Tk} {x : Ex} {a : Option Addr} {c : Nat} (h : Wk w wi pb g T k) (hE : PEnv w pb) (hx : Var w wi eb x a c) (kk n : Int) (U : TypeId) {V : World} (hV : putL wi eb 0 (exL (oneX kk n noT x) (some ⟨wi.heap.size, 0, none⟩) 1) = V) :
 Wk w (V.alloc (.cells (exL x a c).toArray U)) pb g T k /\ Var w (V.alloc (.cells (exL x a c).toArray U)) eb (oneX kk n noT x) (some ⟨wi.heap.size, 0, none⟩) 1 := by
 have hw := h.put hE hx.gt (exL (oneX kk n noT x) (some ⟨wi.heap.size, 0, none⟩) 1);have hz := putL_size eb (exL (oneX kk n noT x) (some ⟨wi.heap.size, 0, none⟩) 1) 0 wi;have hb := hx.bx.put (exL (oneX kk n noT x) (some ⟨wi.heap.size, 0, none⟩) 1) rfl;have k1 := hx.ks.put (c := eb) (fun b hb => hb.2) 0 (exL (oneX kk n noT x) (some ⟨wi.heap.size, 0, none⟩) 1);rw [hV] at hw hz hb k1;have hl := hx.lt;have hg := hx.gt;refine ⟨hw.box _, hb.below (kbelow_box _ _) (by rw [hz]; omega), by simp; omega, hg, ?_⟩;exact KidsP.one U kk n noT k1 (g := wi.heap.size) hz.symm (by rw [hz]; exact ⟨by omega, by omega⟩) (by unfold noT maxLen; exact Nat.zero_le _)
theorem prs_su (T : List Tk) (f k : Nat) : prs T (f + 1) .su k = (prs T f .pr k).bind fun a => prs T f (.sl a.1) a.2 := by rw [prs]
theorem prs_sl (T : List Tk) (f k : Nat) (e : Ex) : prs T (f + 1) (.sl e) k = if isT T k [43] then (prs T f .pr (k + 1)).bind fun a => prs T f (.sl (twoX 7 e a.1)) a.2 else if isT T k [45] then (prs T f .pr (k + 1)).bind fun a => prs T f (.sl (twoX 8 e a.1)) a.2 else some (e, k) := by rw [prs]
theorem sum_any {T : List Tk} {pb g f : Nat} (hT : TokOk T) (hC : ∀ f', f' <= f -> ConP T pb g f') : ConS T pb g (f + 1) := by
 intro k w hE h hf;have hR := prs_su T f k;generalize prs T (f + 1) .su k = R at hR ⊢;have HE0 := Hd hE;have HW0 := Hd (Wk.start h hE);have HC := Hd hC;have HT := Hd hT;have hkl := h.2;have hpl : pb < w.heap.size := h.lt;have HR := Hd hR;have HCC := Hd (hC f (Nat.le_refl _) k _ HW0.out.en HW0.out.st.pr (by omega));clear h hE hC hT hR
 go_enter Tryz.func164, Tryz.ntmps164
 cases hr : prs T f .pr k with
 | none =>
   rw [hr] at HCC;have HN : Hid (R = none) := by unfold Hid; rw [HR.out, hr]; rfl
   clear hr;go_wp2_with fail
   refine HCC.out.mono ?_;rintro e w1 ⟨⟨er, at', h0, rfl⟩, hg⟩;have HG := Hd (And.intro h0 hg);clear h0 hg;go_wp2_with fail
   exact ⟨rfl, PRet.gone HN.out (HW0.out.gave ⟨⟨er, at', HG.out.1, rfl⟩, HG.out.2⟩)⟩
 | some xk =>
   obtain ⟨x0, k0⟩ := xk;have hlow := (prs_ok HT.out _ _ _ _ _ rfl hkl hr).low;simp only [lowL] at hlow;rw [hr] at HCC;have HRR : Hid (prs T f (.sl x0) k0 = R) := by unfold Hid; rw [HR.out, hr]; rfl
   clear hr;go_wp2_with fail
   refine HCC.out.mono ?_;rintro e w1 ⟨a0, c0, rfl, hk, hs⟩;have HV1 := Hd (HW0.out.step hs);have HW1 := Hd (HV1.out.box (.cells #[.int .i64 x0.k, .int .i64 x0.n, .string x0.s, .slice a0 x0.m c0] 50));have HX1 := Hd (Var.made (c := c0) HV1.out (hk.mono fun b hb _ => by have := HW0.out.sz; omega));clear hk hs HCC;unfold exV;go_wp2_with fail
   go_loopw [4] (fun _ wr => ∃ (x : Ex) (a : Option Addr) (c kj fj : Nat), Wk w wr pb g T kj /\ Var w wr w1.heap.size x a c /\ prs T fj (.sl x) kj = R /\ 8 * (T.length - kj) + 10 <= fj /\ fj <= f) (fun _ wr => leftOf wr pb)
   case atStart => exact ⟨x0, a0, c0, k0, f, HW1.out, HX1.out, HRR.out, by have := HW1.out.st.pr.2; omega, Nat.le_refl _⟩
   case round =>
    obtain ⟨x, a, c, kj, fj, hW, hX, hRJ, hf1, hf2⟩ := hrel;obtain ⟨fq, rfl⟩ : ∃ fq, fj = fq + 1 := ⟨fj - 1, by omega⟩;have HWj := Hd hW;have HXj := Hd hX;have HRJ := Hd hRJ;have HLF := Hd hW.st.pr.left;have hkj := hW.st.pr.2;have HPK := Hd (peekA hW.st.pr);have HTL := Hd (fun l b (h : isT T kj l = b) => isT_list h);obtain ⟨r, hr⟩ : ∃ r, tkth T kj = r := ⟨_, rfl⟩;rw [hr] at HPK HTL;obtain ⟨rk, rt, rn, rp, ro⟩ := r
    dsimp only at HTL
    have hfx := tq_txt (.int .i64 rk) (.string rt) (.int .i64 rn) (.bool rp) (.int .i64 ro);have HTK := Hd hr;clear hW hX hRJ hr;go_wp2_with fail
    refine HPK.out.mono ?_;rintro e w2 ⟨rfl, hb⟩;have HW2 := Hd (HWj.out.below hb);have HX2 := Hd (HXj.out.below hb);have HL2 : Hid (leftOf wr pb = T.length - kj) := HLF.out;clear hb HPK HXj;unfold tqV
    by_cases q1 : isT T kj [43] = true
    ·have hd := HTL.out _ _ q1;have HKN := Hd (HT.out.text hkj q1 (by simp));have HRQ := Hd (HRJ.out.symm.trans ((prs_sl T fq kj x).trans (if_pos q1)));have HKW : Hid ((tkth T kj).txt = rt) := by unfold Hid; rw [HTK.out]
     clear q1 HRJ;go_wp2_with fail
     refine (nextA HW2.out.st.pr HKN.out).mono ?_;rintro e w3 ⟨rfl, hs⟩;have HX3 := Hd (HX2.out.step hs hpl);have HW3 := Hd (HW2.out.step hs);clear hs;have HCC := Hd (HC.out fq (by omega) (kj + 1) w3 HW3.out.en HW3.out.st.pr (by have := HW3.out.st.pr.2; omega))
     cases hr : prs T fq .pr (kj + 1) with
     | none =>
       rw [hr] at HCC;have HN : Hid (R = none) := by unfold Hid; rw [HRQ.out, hr]; rfl
       clear hr;go_wp2_with fail
       refine HCC.out.mono ?_;rintro e w4 ⟨⟨er, at', h0, rfl⟩, hg⟩;have HG := Hd (And.intro h0 hg);clear h0 hg;go_wp2_with fail
       exact ⟨rfl, PRet.gone HN.out (HW3.out.gave ⟨⟨er, at', HG.out.1, rfl⟩, HG.out.2⟩)⟩
     | some xk =>
       obtain ⟨y, k2⟩ := xk;have hlow := (prs_ok HT.out _ _ _ _ _ rfl HW3.out.st.pr.2 hr).low;simp only [lowL] at hlow;rw [hr] at HCC;have HRR : Hid (prs T fq (.sl (twoX 7 x y)) k2 = R) := by unfold Hid; rw [HRQ.out, hr]; rfl
       clear hr;go_wp2_with fail
       refine HCC.out.mono ?_;rintro e w4 ⟨ay, cy, rfl, hk, hs⟩;have HY4 : Hid (KidsP w4 (fun b => w.heap.size < b /\ b ≠ w1.heap.size) y ay) := hk.mono fun b hb _ => by have := HX3.out.lt; have := HW3.out.sz; omega
       have HX4 := Hd (HX3.out.step hs hpl);have HW4 := Hd (HW3.out.step hs);clear hs;clear hk HCC;obtain ⟨⟨p0, p1, p2, p3⟩, z0, z1, z2, z3⟩ := HX4.out.bx.four;have hne := HX4.out.lt;unfold exV;go_wp2_with fail
       have hD := Var.two (cy := cy) HW4.out HE0.out HX4.out HY4.out 7 (.cells #[.int .i64 y.k, .int .i64 y.n, .string y.s, .slice ay y.m cy] 50) 50 rfl;go_roundw
       case rel => exact ⟨twoX 7 x y, some ⟨w4.heap.size + 1, 0, none⟩, 2, k2, fq, hD.1, hD.2, HRR.out, by have := HW4.out.st.pr.2; omega, by omega⟩
       case measure =>
        have hL := hD.1.st.pr.left;have hk2 := hD.1.st.pr.2;rw [HL2.out];refine Nat.lt_of_le_of_lt (Nat.le_of_eq hL) (by omega)
    ·have d1 := HTL.out _ _ (isT_false q1)
     by_cases q2 : isT T kj [45] = true
     ·have hd := HTL.out _ _ q2;have HKN := Hd (HT.out.text hkj q2 (by simp));have HRQ := Hd (HRJ.out.symm.trans ((prs_sl T fq kj x).trans ((if_neg q1).trans (if_pos q2))));have HKW : Hid ((tkth T kj).txt = rt) := by unfold Hid; rw [HTK.out]
      clear q2 HRJ;go_wp2_with fail
      refine (nextA HW2.out.st.pr HKN.out).mono ?_;rintro e w3 ⟨rfl, hs⟩;have HX3 := Hd (HX2.out.step hs hpl);have HW3 := Hd (HW2.out.step hs);clear hs;have HCC := Hd (HC.out fq (by omega) (kj + 1) w3 HW3.out.en HW3.out.st.pr (by have := HW3.out.st.pr.2; omega))
      cases hr : prs T fq .pr (kj + 1) with
      | none =>
        rw [hr] at HCC;have HN : Hid (R = none) := by unfold Hid; rw [HRQ.out, hr]; rfl
        clear hr;go_wp2_with fail
        refine HCC.out.mono ?_;rintro e w4 ⟨⟨er, at', h0, rfl⟩, hg⟩;have HG := Hd (And.intro h0 hg);clear h0 hg;go_wp2_with fail
        exact ⟨rfl, PRet.gone HN.out (HW3.out.gave ⟨⟨er, at', HG.out.1, rfl⟩, HG.out.2⟩)⟩
      | some xk =>
        obtain ⟨y, k2⟩ := xk;have hlow := (prs_ok HT.out _ _ _ _ _ rfl HW3.out.st.pr.2 hr).low;simp only [lowL] at hlow;rw [hr] at HCC;have HRR : Hid (prs T fq (.sl (twoX 8 x y)) k2 = R) := by unfold Hid; rw [HRQ.out, hr]; rfl
        clear hr;go_wp2_with fail
        refine HCC.out.mono ?_;rintro e w4 ⟨ay, cy, rfl, hk, hs⟩;have HY4 : Hid (KidsP w4 (fun b => w.heap.size < b /\ b ≠ w1.heap.size) y ay) := hk.mono fun b hb _ => by have := HX3.out.lt; have := HW3.out.sz; omega
        have HX4 := Hd (HX3.out.step hs hpl);have HW4 := Hd (HW3.out.step hs);clear hs;clear hk HCC;obtain ⟨⟨p0, p1, p2, p3⟩, z0, z1, z2, z3⟩ := HX4.out.bx.four;have hne := HX4.out.lt;unfold exV;go_wp2_with fail
        have hD := Var.two (cy := cy) HW4.out HE0.out HX4.out HY4.out 8 (.cells #[.int .i64 y.k, .int .i64 y.n, .string y.s, .slice ay y.m cy] 50) 50 rfl;go_roundw
        case rel => exact ⟨twoX 8 x y, some ⟨w4.heap.size + 1, 0, none⟩, 2, k2, fq, hD.1, hD.2, HRR.out, by have := HW4.out.st.pr.2; omega, by omega⟩
        case measure =>
         have hL := hD.1.st.pr.left;have hk2 := hD.1.st.pr.2;rw [HL2.out];refine Nat.lt_of_le_of_lt (Nat.le_of_eq hL) (by omega)
     ·have d2 := HTL.out _ _ (isT_false q2);have HN := Hd (HRJ.out.symm.trans ((prs_sl T fq kj x).trans ((if_neg q1).trans (if_neg q2))));obtain ⟨⟨p0, p1, p2, p3⟩, -⟩ := HX2.out.bx.four;obtain ⟨⟨r0, r1, r2, r3⟩, z0, z1, z2, z3⟩ := HW2.out.bx.four;have hne := HX2.out.gt;clear q1 q2;go_wp2_with fail
      have hD := HW2.out.done (c := c) (HX2.out.ks.mono fun b hb _ => hb.1);refine bodyPost_ret (v := exV x a c) ?_ rfl ?_
      rotate_left
      ·exact PRet.got HN.out ⟨a, c, rfl, hD.2.1, hD.2.2⟩
      obtain ⟨⟨e0, e1, e2, e3⟩, -⟩ := hD.1.four;simp only [exL, putL, Nat.zero_add, Nat.reduceAdd] at e0 e1 e2 e3;simp [results, Tryz.results164, go_sem, e0, e1, e2, e3, exV]
theorem TstR.cases {w w' : World} {pb g k : Nat} {T : List Tk} {e : Ending} {R : Option Int} (h : TstR w w' pb g T k e R) : (R = none /\ Gave w pb e w') \/ ∃ t, R = some t /\ e = .returned (.int .i64 t) /\ St w w' pb g T (k + 1) := by
 cases R with
 | none => exact .inl ⟨rfl, h⟩
 | some t => exact .inr ⟨t, rfl, h.1, h.2⟩
theorem prs_pr (T : List Tk) (f k : Nat) : prs T (f + 1) .pr k = (prs T f .pa k).bind fun a => prs T f (.pl a.1) a.2 := by rw [prs]
theorem prs_pl (T : List Tk) (f k : Nat) (e : Ex) : prs T (f + 1) (.pl e) k = if isT T k [42] then (facT T (k + 1)).bind fun n => prs T f (.pl (oneX 9 n noT e)) (k + 2) else if isT T k [47] then (facT T (k + 1)).bind fun n => prs T f (.pl (oneX 10 n noT e)) (k + 2) else some (e, k) := by rw [prs]
theorem Var.early {w wi : World} {pb g k eb : Nat} {T : List Tk} {x y : Ex} {a ay : Option Addr} {c cy : Nat} (h : Wk w wi pb g T k) (hE : PEnv w pb) (hx : Var w wi eb x a c) (hy : KidsP wi (fun q => w.heap.size < q /\ q ≠ eb) y ay) {V : World} (hV : putL wi eb 0 (exL y ay cy) = V) :
 Wk w V pb g T k /\ Var w V eb y ay cy := by
 have hw := h.put hE hx.gt (exL y ay cy);have hz := putL_size eb (exL y ay cy) 0 wi;have hb := hx.bx.put (exL y ay cy) rfl;have k1 := hy.put (c := eb) (fun b hb => hb.2) 0 (exL y ay cy);rw [hV] at hw hz hb k1;exact ⟨hw, hb, by rw [hz]; exact hx.lt, hx.gt, k1⟩
theorem product_any {T : List Tk} {pb g f : Nat} (hT : TokOk T) (hC : ConA T pb g f) : ConP T pb g (f + 1) := by
 intro k w hE h hf;have hR := prs_pr T f k;generalize prs T (f + 1) .pr k = R at hR ⊢;have HE0 := Hd hE;have HW0 := Hd (Wk.start h hE);have HT := Hd hT;have hkl := h.2;have hpl : pb < w.heap.size := h.lt;have HR := Hd hR;have HCC := Hd (hC k _ HW0.out.en HW0.out.st.pr (by omega));clear h hE hC hT hR
 go_enter Tryz.func184, Tryz.ntmps184
 cases hr : prs T f .pa k with
 | none =>
   rw [hr] at HCC;have HN : Hid (R = none) := by unfold Hid; rw [HR.out, hr]; rfl
   clear hr;go_wp2_with fail
   refine HCC.out.mono ?_;rintro e w1 ⟨⟨er, at', h0, rfl⟩, hg⟩;have HG := Hd (And.intro h0 hg);clear h0 hg;go_wp2_with fail
   exact ⟨rfl, PRet.gone HN.out (HW0.out.gave ⟨⟨er, at', HG.out.1, rfl⟩, HG.out.2⟩)⟩
 | some xk =>
   obtain ⟨x0, k0⟩ := xk;have hlow := (prs_ok HT.out _ _ _ _ _ rfl hkl hr).low;simp only [lowL] at hlow;rw [hr] at HCC;have HRR : Hid (prs T f (.pl x0) k0 = R) := by unfold Hid; rw [HR.out, hr]; rfl
   clear hr;go_wp2_with fail
   refine HCC.out.mono ?_;rintro e w1 ⟨a0, c0, rfl, hk, hs⟩;have HV1 := Hd (HW0.out.step hs);have HW1 := Hd (HV1.out.box (.cells #[.int .i64 x0.k, .int .i64 x0.n, .string x0.s, .slice a0 x0.m c0] 50));have HX1 := Hd (Var.made (c := c0) HV1.out (hk.mono fun b hb _ => by have := HW0.out.sz; omega));clear hk hs HCC;unfold exV;go_wp2_with fail
   go_loopw [4] (fun _ wr => ∃ (x : Ex) (a : Option Addr) (c kj fj : Nat), Wk w wr pb g T kj /\ Var w wr w1.heap.size x a c /\ prs T fj (.pl x) kj = R /\ 8 * (T.length - kj) + 10 <= fj /\ fj <= f) (fun _ wr => leftOf wr pb)
   case atStart => exact ⟨x0, a0, c0, k0, f, HW1.out, HX1.out, HRR.out, by have := HW1.out.st.pr.2; omega, Nat.le_refl _⟩
   case round =>
    obtain ⟨x, a, c, kj, fj, hW, hX, hRJ, hf1, hf2⟩ := hrel;obtain ⟨fq, rfl⟩ : ∃ fq, fj = fq + 1 := ⟨fj - 1, by omega⟩;have HWj := Hd hW;have HXj := Hd hX;have HRJ := Hd hRJ;have HLF := Hd hW.st.pr.left;have hkj := hW.st.pr.2;have HPK := Hd (peekA hW.st.pr);have HTL := Hd (fun l b (h : isT T kj l = b) => isT_list h);obtain ⟨r, hr⟩ : ∃ r, tkth T kj = r := ⟨_, rfl⟩;rw [hr] at HPK HTL;obtain ⟨rk, rt, rn, rp, ro⟩ := r
    dsimp only at HTL
    have hfx := tq_txt (.int .i64 rk) (.string rt) (.int .i64 rn) (.bool rp) (.int .i64 ro);have HTK := Hd hr;clear hW hX hRJ hr;go_wp2_with fail
    refine HPK.out.mono ?_;rintro e w2 ⟨rfl, hb⟩;have HW2 := Hd (HWj.out.below hb);have HX2 := Hd (HXj.out.below hb);have HL2 : Hid (leftOf wr pb = T.length - kj) := HLF.out;clear hb HPK HXj;unfold tqV
    by_cases q1 : isT T kj [42] = true
    ·have hd := HTL.out _ _ q1;have HKN := Hd (HT.out.text hkj q1 (by simp));have HRQ := Hd (HRJ.out.symm.trans ((prs_pl T fq kj x).trans (if_pos q1)));have HKW : Hid ((tkth T kj).txt = rt) := by unfold Hid; rw [HTK.out]
     clear q1 HRJ;go_wp2_with fail
     refine (nextA HW2.out.st.pr HKN.out).mono ?_;rintro e w3 ⟨rfl, hs⟩;have HX3 := Hd (HX2.out.step hs hpl);have HW3 := Hd (HW2.out.step hs);clear hs;have HD3 := Hd HW3.out.drew;have HXD : Hid (Var w w3.drew w1.heap.size x a c) := HX3.out.below ((Below.refl _ _).drew);have HFF := Hd (factor_any HT.out HD3.out.st.pr);have HDB := Hd (HW3.out.box (.cells #[.int .i64 x.k, .int .i64 x.n, .string x.s, .slice a x.m c] 50)).drew;have HXB : Hid (Var w (w3.alloc (.cells #[.int .i64 x.k, .int .i64 x.n, .string x.s, .slice a x.m c] 50)).drew w1.heap.size x a c) := HX3.out.below ((kbelow_box _ _).drew);have HFB := Hd (factor_any HT.out HDB.out.st.pr);have HKB : Hid (∀ n, KidsP (w3.alloc (.cells #[.int .i64 x.k, .int .i64 x.n, .string x.s, .slice a x.m c] 50)).drew (fun q => w.heap.size < q /\ q ≠ w1.heap.size) (oneX 9 n noT x) (some ⟨w3.heap.size, 0, none⟩)) := fun n => (KidsP.one (ce := c) 50 9 n noT HX3.out.ks (g := w3.heap.size) rfl ⟨by have := HX3.out.lt; have := HX3.out.gt; omega, by have := HX3.out.lt; omega⟩ (by unfold noT maxLen; exact Nat.zero_le _)).below ((Below.refl _ _).drew)
     have HN0 : Hid (facT T (kj + 1) = none -> R = none) := fun hn => by rw [HRQ.out, hn]; rfl
     have HN1 : Hid (∀ n, facT T (kj + 1) = some n -> prs T fq (.pl (oneX 9 n noT x)) (kj + 2) = R) := fun n hn => by rw [HRQ.out, hn]; rfl
     generalize facT T (kj + 1) = o at *;obtain ⟨⟨p0, p1, p2, p3⟩, z0, z1, z2, z3⟩ := HX3.out.bx.four;go_wp2_with fail
     go_region_with (first | (go_at_call 200; refine HFF.out.mono ?_; intro e w4 hp; rcases hp.cases with ⟨hn, ⟨er, at', h0, rfl⟩, hg⟩ | ⟨n, hn, rfl, hs⟩; (· exact ⟨rfl, PRet.gone (HN0.out hn) (HD3.out.gave ⟨⟨er, at', h0, rfl⟩, hg⟩)⟩); have HX4 := Hd (HXD.out.step hs hpl); have HW4 := Hd (HD3.out.step hs); have HRR := Hd (HN1.out n hn); obtain ⟨⟨y0, y1, y2, y3⟩, v0, v1, v2, v3⟩ := HX4.out.bx.four; have hne := HX4.out.lt; clear hp hn hs) | (go_at_call 200; refine HFB.out.mono ?_; intro e w4 hp; rcases hp.cases with ⟨hn, ⟨er, at', h0, rfl⟩, hg⟩ | ⟨n, hn, rfl, hs⟩; (· exact ⟨rfl, PRet.gone (HN0.out hn) (HDB.out.gave ⟨⟨er, at', h0, rfl⟩, hg⟩)⟩); have HX4 := Hd (HXB.out.step hs hpl); have HW4 := Hd (HDB.out.step hs); have HRR := Hd (HN1.out n hn); have HK4 := Hd ((HKB.out n).gr hs.gr fun b hb => by omega); obtain ⟨⟨y0, y1, y2, y3⟩, v0, v1, v2, v3⟩ := HX4.out.bx.four; have hne := HX4.out.lt; clear hp hn hs))
     ·go_wp2_with fail
      have hD := Var.one HW4.out HE0.out HX4.out 9 n 50 rfl;go_roundw
      case rel => exact ⟨oneX 9 n noT x, some ⟨w4.heap.size, 0, none⟩, 1, kj + 2, fq, hD.1, hD.2, HRR.out, by have := HW4.out.st.pr.2; omega, by omega⟩
      case measure =>
       have hL := hD.1.st.pr.left;have hk2 := hD.1.st.pr.2;rw [HL2.out];refine Nat.lt_of_le_of_lt (Nat.le_of_eq hL) (by omega)
     ·go_wp2_with fail
      have hD := Var.one HW4.out HE0.out HX4.out 9 n 50 rfl;go_roundw
      case rel => exact ⟨oneX 9 n noT x, some ⟨w4.heap.size, 0, none⟩, 1, kj + 2, fq, hD.1, hD.2, HRR.out, by have := HW4.out.st.pr.2; omega, by omega⟩
      case measure =>
       have hL := hD.1.st.pr.left;have hk2 := hD.1.st.pr.2;rw [HL2.out];refine Nat.lt_of_le_of_lt (Nat.le_of_eq hL) (by omega)
     ·go_wp2_with fail
      have hD := Var.early (cy := 1) HW4.out HE0.out HX4.out HK4.out rfl;go_roundw
      case rel => exact ⟨oneX 9 n noT x, some ⟨w3.heap.size, 0, none⟩, 1, kj + 2, fq, hD.1, hD.2, HRR.out, by have := HW4.out.st.pr.2; omega, by omega⟩
      case measure =>
       have hL := hD.1.st.pr.left;have hk2 := hD.1.st.pr.2;rw [HL2.out];refine Nat.lt_of_le_of_lt (Nat.le_of_eq hL) (by omega)
    ·have d1 := HTL.out _ _ (isT_false q1)
     by_cases q2 : isT T kj [47] = true
     ·have hd := HTL.out _ _ q2;have HKN := Hd (HT.out.text hkj q2 (by simp));have HRQ := Hd (HRJ.out.symm.trans ((prs_pl T fq kj x).trans ((if_neg q1).trans (if_pos q2))));have HKW : Hid ((tkth T kj).txt = rt) := by unfold Hid; rw [HTK.out]
      clear q2 HRJ;go_wp2_with fail
      refine (nextA HW2.out.st.pr HKN.out).mono ?_;rintro e w3 ⟨rfl, hs⟩;have HX3 := Hd (HX2.out.step hs hpl);have HW3 := Hd (HW2.out.step hs);clear hs;have HD3 := Hd HW3.out.drew;have HXD : Hid (Var w w3.drew w1.heap.size x a c) := HX3.out.below ((Below.refl _ _).drew);have HFF := Hd (factor_any HT.out HD3.out.st.pr);have HDB := Hd (HW3.out.box (.cells #[.int .i64 x.k, .int .i64 x.n, .string x.s, .slice a x.m c] 50)).drew;have HXB : Hid (Var w (w3.alloc (.cells #[.int .i64 x.k, .int .i64 x.n, .string x.s, .slice a x.m c] 50)).drew w1.heap.size x a c) := HX3.out.below ((kbelow_box _ _).drew);have HFB := Hd (factor_any HT.out HDB.out.st.pr);have HKB : Hid (∀ n, KidsP (w3.alloc (.cells #[.int .i64 x.k, .int .i64 x.n, .string x.s, .slice a x.m c] 50)).drew (fun q => w.heap.size < q /\ q ≠ w1.heap.size) (oneX 10 n noT x) (some ⟨w3.heap.size, 0, none⟩)) := fun n => (KidsP.one (ce := c) 50 10 n noT HX3.out.ks (g := w3.heap.size) rfl ⟨by have := HX3.out.lt; have := HX3.out.gt; omega, by have := HX3.out.lt; omega⟩ (by unfold noT maxLen; exact Nat.zero_le _)).below ((Below.refl _ _).drew)
      have HN0 : Hid (facT T (kj + 1) = none -> R = none) := fun hn => by rw [HRQ.out, hn]; rfl
      have HN1 : Hid (∀ n, facT T (kj + 1) = some n -> prs T fq (.pl (oneX 10 n noT x)) (kj + 2) = R) := fun n hn => by rw [HRQ.out, hn]; rfl
      generalize facT T (kj + 1) = o at *;obtain ⟨⟨p0, p1, p2, p3⟩, z0, z1, z2, z3⟩ := HX3.out.bx.four;go_wp2_with fail
      go_region_with (first | (go_at_call 200; refine HFF.out.mono ?_; intro e w4 hp; rcases hp.cases with ⟨hn, ⟨er, at', h0, rfl⟩, hg⟩ | ⟨n, hn, rfl, hs⟩; (· exact ⟨rfl, PRet.gone (HN0.out hn) (HD3.out.gave ⟨⟨er, at', h0, rfl⟩, hg⟩)⟩); have HX4 := Hd (HXD.out.step hs hpl); have HW4 := Hd (HD3.out.step hs); have HRR := Hd (HN1.out n hn); obtain ⟨⟨y0, y1, y2, y3⟩, v0, v1, v2, v3⟩ := HX4.out.bx.four; have hne := HX4.out.lt; clear hp hn hs) | (go_at_call 200; refine HFB.out.mono ?_; intro e w4 hp; rcases hp.cases with ⟨hn, ⟨er, at', h0, rfl⟩, hg⟩ | ⟨n, hn, rfl, hs⟩; (· exact ⟨rfl, PRet.gone (HN0.out hn) (HDB.out.gave ⟨⟨er, at', h0, rfl⟩, hg⟩)⟩); have HX4 := Hd (HXB.out.step hs hpl); have HW4 := Hd (HDB.out.step hs); have HRR := Hd (HN1.out n hn); have HK4 := Hd ((HKB.out n).gr hs.gr fun b hb => by omega); obtain ⟨⟨y0, y1, y2, y3⟩, v0, v1, v2, v3⟩ := HX4.out.bx.four; have hne := HX4.out.lt; clear hp hn hs))
      ·go_wp2_with fail
       have hD := Var.one HW4.out HE0.out HX4.out 10 n 50 rfl;go_roundw
       case rel => exact ⟨oneX 10 n noT x, some ⟨w4.heap.size, 0, none⟩, 1, kj + 2, fq, hD.1, hD.2, HRR.out, by have := HW4.out.st.pr.2; omega, by omega⟩
       case measure =>
        have hL := hD.1.st.pr.left;have hk2 := hD.1.st.pr.2;rw [HL2.out];refine Nat.lt_of_le_of_lt (Nat.le_of_eq hL) (by omega)
      ·go_wp2_with fail
       have hD := Var.one HW4.out HE0.out HX4.out 10 n 50 rfl;go_roundw
       case rel => exact ⟨oneX 10 n noT x, some ⟨w4.heap.size, 0, none⟩, 1, kj + 2, fq, hD.1, hD.2, HRR.out, by have := HW4.out.st.pr.2; omega, by omega⟩
       case measure =>
        have hL := hD.1.st.pr.left;have hk2 := hD.1.st.pr.2;rw [HL2.out];refine Nat.lt_of_le_of_lt (Nat.le_of_eq hL) (by omega)
      ·go_wp2_with fail
       have hD := Var.early (cy := 1) HW4.out HE0.out HX4.out HK4.out rfl;go_roundw
       case rel => exact ⟨oneX 10 n noT x, some ⟨w3.heap.size, 0, none⟩, 1, kj + 2, fq, hD.1, hD.2, HRR.out, by have := HW4.out.st.pr.2; omega, by omega⟩
       case measure =>
        have hL := hD.1.st.pr.left;have hk2 := hD.1.st.pr.2;rw [HL2.out];refine Nat.lt_of_le_of_lt (Nat.le_of_eq hL) (by omega)
     ·have d2 := HTL.out _ _ (isT_false q2);have HN := Hd (HRJ.out.symm.trans ((prs_pl T fq kj x).trans ((if_neg q1).trans (if_neg q2))));obtain ⟨⟨p0, p1, p2, p3⟩, -⟩ := HX2.out.bx.four;obtain ⟨⟨r0, r1, r2, r3⟩, z0, z1, z2, z3⟩ := HW2.out.bx.four;have hne := HX2.out.gt;clear q1 q2;go_wp2_with fail
      have hD := HW2.out.done (c := c) (HX2.out.ks.mono fun b hb _ => hb.1);refine bodyPost_ret (v := exV x a c) ?_ rfl ?_
      rotate_left
      ·exact PRet.got HN.out ⟨a, c, rfl, hD.2.1, hD.2.2⟩
      obtain ⟨⟨e0, e1, e2, e3⟩, -⟩ := hD.1.four;simp only [exL, putL, Nat.zero_add, Nat.reduceAdd] at e0 e1 e2 e3;simp [results, Tryz.results184, go_sem, e0, e1, e2, e3, exV]
theorem putL_alloc {w : World} {b : Nat} (hb : b < w.heap.size) (o : Obj) : ∀ (us : List Value) (i : Nat), putL (w.alloc o) b i us = (putL w b i us).alloc o := by
 intro us
 induction us generalizing w with
 | nil => intro i; rfl
 | cons v us ih =>
   intro i;rw [putL, putL, World.setCell_alloc_past (w := w) o b i v hb];exact ih (by simp; exact hb) (i + 1)
theorem prs_ex (T : List Tk) (f k : Nat) : prs T (f + 1) .ex k = if isT T k [105, 102] then (prs T f .su (k + 1)).bind fun a => (tstT T a.2).bind fun t => (prs T f .su (a.2 + 1)).bind fun b => if isT T b.2 [116, 104, 101, 110] then (prs T f .ex (b.2 + 1)).bind fun c => if isT T c.2 [101, 108, 115, 101] then (prs T f .ex (c.2 + 1)).bind fun d => some (fourX t a.1 b.1 c.1 d.1, d.2) else none else none else prs T f .su k := by rw [prs]
theorem expression_any {T : List Tk} {pb g f : Nat} (hT : TokOk T) (hCS : ConS T pb g f) (hCE : ConE T pb g f) : ConE T pb g (f + 1) := by
 intro k w hE h hf;have hR := prs_ex T f k;generalize prs T (f + 1) .ex k = R at hR ⊢;have HW0 := Hd (Wk.start h hE);have HCS := Hd hCS;have HCE := Hd hCE;have HT := Hd hT;have hkl := h.2;have hpl : pb < w.heap.size := h.lt;clear h hE hCS hCE hT
 by_cases c0 : isT T k [105, 102] = true
 ·have HX := Hd (accept_yes HT.out HW0.out.st.pr c0 (by simp));have HR := Hd (hR.trans (if_pos c0));clear c0 hR
  go_enter Tryz.func128, Tryz.ntmps128
  go_wp2_with fail
  refine HX.out.mono ?_;rintro e w1 ⟨rfl, hs⟩;have HW1 := Hd (HW0.out.step hs);clear hs;clear HX;have HCC := Hd (HCS.out (k + 1) _ HW1.out.en HW1.out.st.pr (by have := HW1.out.st.pr.2; omega))
  cases hr : prs T f .su (k + 1) with
  | none =>
    rw [hr] at HCC;have HN : Hid (R = none) := by unfold Hid; rw [HR.out,  hr]; rfl
    clear hr;go_wp2_with fail
    refine HCC.out.mono ?_;rintro e w2 ⟨⟨er, at', h0, rfl⟩, hg⟩;have HG := Hd (And.intro h0 hg);clear h0 hg;go_wp2_with fail
    exact ⟨rfl, PRet.gone HN.out (HW1.out.gave ⟨⟨er, at', HG.out.1, rfl⟩, HG.out.2⟩)⟩
  | some xk =>
    obtain ⟨xa, k1⟩ := xk;have hlowa := (prs_ok HT.out _ _ _ _ _ rfl HW1.out.st.pr.2 hr).low;simp only [lowL] at hlowa;rw [hr] at HCC;have HSa := Hd hr;clear hr;go_wp2_with fail
    refine HCC.out.mono ?_;rintro e w2 ⟨aa, ca, rfl, hk, hs⟩;have HKa : Hid (KidsP w2 (fun b => w.heap.size < b) xa aa) := hk.mono fun b hb _ => by have := HW1.out.sz; omega
    have HV2 := Hd (HW1.out.step hs);have HW2 := Hd (HV2.out.box (.cells #[.int .i64 xa.k, .int .i64 xa.n, .string xa.s, .slice aa xa.m ca] 50));have HLa := Hd (Loc.made (c := ca) HV2.out HKa.out);clear hs hk HCC;unfold exV
    cases ht : tstT T k1 with
    | none =>
      have HN : Hid (R = none) := by unfold Hid; rw [HR.out, HSa.out, Option.bind_some, ht]; rfl
      have HTE := Hd (test_any HT.out HW2.out.en HW2.out.st.pr);rw [ht] at HTE;go_wp2_with fail
      refine HTE.out.mono ?_;rintro e w3 ⟨⟨er, at', h0, rfl⟩, hg⟩;have HG := Hd (And.intro h0 hg);clear h0 hg;go_wp2_with fail
      exact ⟨rfl, PRet.gone HN.out (HW2.out.gave ⟨⟨er, at', HG.out.1, rfl⟩, HG.out.2⟩)⟩
    | some t =>
      have HTE := Hd (test_any HT.out HW2.out.en HW2.out.st.pr);rw [ht] at HTE;have HTT := Hd ht;clear ht;go_wp2_with fail
      refine HTE.out.mono ?_;rintro e w3 ⟨rfl, hs⟩;have HA3 := Hd (HLa.out.step hs hpl);have HW3 := Hd (HW2.out.step hs);clear hs;clear HTE;have HCC := Hd (HCS.out (k1 + 1) _ HW3.out.en HW3.out.st.pr (by have := HW3.out.st.pr.2; omega))
      cases hr : prs T f .su (k1 + 1) with
      | none =>
        rw [hr] at HCC;have HN : Hid (R = none) := by unfold Hid; rw [HR.out, HSa.out, Option.bind_some, HTT.out, Option.bind_some, hr]; rfl
        clear hr;go_wp2_with fail
        refine HCC.out.mono ?_;rintro e w4 ⟨⟨er, at', h0, rfl⟩, hg⟩;have HG := Hd (And.intro h0 hg);clear h0 hg;go_wp2_with fail
        exact ⟨rfl, PRet.gone HN.out (HW3.out.gave ⟨⟨er, at', HG.out.1, rfl⟩, HG.out.2⟩)⟩
      | some xk =>
        obtain ⟨xb, k2⟩ := xk;have hlowb := (prs_ok HT.out _ _ _ _ _ rfl HW3.out.st.pr.2 hr).low;simp only [lowL] at hlowb;rw [hr] at HCC;have HSb := Hd hr;clear hr;go_wp2_with fail
        refine HCC.out.mono ?_;rintro e w4 ⟨ab, cb, rfl, hk, hs⟩;have HKb : Hid (KidsP w4 (fun b => w.heap.size < b) xb ab) := hk.mono fun b hb _ => by have := HW3.out.sz; omega
        have HV4 := Hd (HW3.out.step hs);have HW4 := Hd (HV4.out.box (.cells #[.int .i64 xb.k, .int .i64 xb.n, .string xb.s, .slice ab xb.m cb] 50));have HLb := Hd (Loc.made (c := cb) HV4.out HKb.out);have HA4 := Hd ((HA3.out.step hs hpl).below (kbelow_box _ (.cells #[.int .i64 xb.k, .int .i64 xb.n, .string xb.s, .slice ab xb.m cb] 50)));clear hs hk HCC;unfold exV
        by_cases c1 : isT T k2 [116, 104, 101, 110] = true
        ·have HX := Hd (expect_yes HT.out HW4.out.st.pr c1 (by simp));have HQ1 := Hd c1;clear c1;go_wp2_with fail
         refine HX.out.mono ?_;rintro e w5 ⟨rfl, hs⟩;have HA5 := Hd (HA4.out.step hs hpl);have HB5 := Hd (HLb.out.step hs hpl);have HW5 := Hd (HW4.out.step hs);clear hs;clear HX;have HCC := Hd (HCE.out (k2 + 1) _ HW5.out.en HW5.out.st.pr (by have := HW5.out.st.pr.2; omega))
         cases hr : prs T f .ex (k2 + 1) with
         | none =>
           rw [hr] at HCC;have HN : Hid (R = none) := by unfold Hid; rw [HR.out, HSa.out, Option.bind_some, HTT.out, Option.bind_some, HSb.out, Option.bind_some, if_pos HQ1.out, hr]; rfl
           clear hr;go_wp2_with fail
           refine HCC.out.mono ?_;rintro e w6 ⟨⟨er, at', h0, rfl⟩, hg⟩;have HG := Hd (And.intro h0 hg);clear h0 hg;go_wp2_with fail
           exact ⟨rfl, PRet.gone HN.out (HW5.out.gave ⟨⟨er, at', HG.out.1, rfl⟩, HG.out.2⟩)⟩
         | some xk =>
           obtain ⟨xc, k3⟩ := xk;have hlowc := (prs_ok HT.out _ _ _ _ _ rfl HW5.out.st.pr.2 hr).low;simp only [lowL] at hlowc;rw [hr] at HCC;have HSc := Hd hr;clear hr;go_wp2_with fail
           refine HCC.out.mono ?_;rintro e w6 ⟨ac, cc, rfl, hk, hs⟩;have HKc : Hid (KidsP w6 (fun b => w.heap.size < b) xc ac) := hk.mono fun b hb _ => by have := HW5.out.sz; omega
           have HV6 := Hd (HW5.out.step hs);have HW6 := Hd (HV6.out.box (.cells #[.int .i64 xc.k, .int .i64 xc.n, .string xc.s, .slice ac xc.m cc] 50));have HLc := Hd (Loc.made (c := cc) HV6.out HKc.out);have HA6 := Hd ((HA5.out.step hs hpl).below (kbelow_box _ (.cells #[.int .i64 xc.k, .int .i64 xc.n, .string xc.s, .slice ac xc.m cc] 50)));have HB6 := Hd ((HB5.out.step hs hpl).below (kbelow_box _ (.cells #[.int .i64 xc.k, .int .i64 xc.n, .string xc.s, .slice ac xc.m cc] 50)));clear hs hk HCC;unfold exV
           by_cases c2 : isT T k3 [101, 108, 115, 101] = true
           ·have HX := Hd (expect_yes HT.out HW6.out.st.pr c2 (by simp));have HQ2 := Hd c2;clear c2;go_wp2_with fail
            refine HX.out.mono ?_;rintro e w7 ⟨rfl, hs⟩;have HA7 := Hd (HA6.out.step hs hpl);have HB7 := Hd (HB6.out.step hs hpl);have HC7 := Hd (HLc.out.step hs hpl);have HW7 := Hd (HW6.out.step hs);clear hs;clear HX;have HCC := Hd (HCE.out (k3 + 1) _ HW7.out.en HW7.out.st.pr (by have := HW7.out.st.pr.2; omega))
            cases hr : prs T f .ex (k3 + 1) with
            | none =>
              rw [hr] at HCC;have HN : Hid (R = none) := by unfold Hid; rw [HR.out, HSa.out, Option.bind_some, HTT.out, Option.bind_some, HSb.out, Option.bind_some, if_pos HQ1.out, HSc.out, Option.bind_some, if_pos HQ2.out, hr]; rfl
              clear hr;go_wp2_with fail
              refine HCC.out.mono ?_;rintro e w8 ⟨⟨er, at', h0, rfl⟩, hg⟩;have HG := Hd (And.intro h0 hg);clear h0 hg;go_wp2_with fail
              exact ⟨rfl, PRet.gone HN.out (HW7.out.gave ⟨⟨er, at', HG.out.1, rfl⟩, HG.out.2⟩)⟩
            | some xk =>
              obtain ⟨xd, k4⟩ := xk;have hlowd := (prs_ok HT.out _ _ _ _ _ rfl HW7.out.st.pr.2 hr).low;simp only [lowL] at hlowd;rw [hr] at HCC;have HSd := Hd hr;clear hr;go_wp2_with fail
              refine HCC.out.mono ?_;rintro e w8 ⟨ad, cd, rfl, hk, hs⟩;have HKd : Hid (KidsP w8 (fun b => w.heap.size < b) xd ad) := hk.mono fun b hb _ => by have := HW7.out.sz; omega
              have HV8 := Hd (HW7.out.step hs);have HW8 := Hd (HV8.out.box (.cells #[.int .i64 xd.k, .int .i64 xd.n, .string xd.s, .slice ad xd.m cd] 50));have HLd := Hd (Loc.made (c := cd) HV8.out HKd.out);have HA8 := Hd (HA7.out.step hs hpl);have HB8 := Hd (HB7.out.step hs hpl);have HC8 := Hd (HC7.out.step hs hpl);clear hs hk HCC;have HN : Hid (R = some (fourX t xa xb xc xd, k4)) := by unfold Hid; rw [HR.out, HSa.out, Option.bind_some, HTT.out, Option.bind_some, HSb.out, Option.bind_some, if_pos HQ1.out, HSc.out, Option.bind_some, if_pos HQ2.out, HSd.out]; rfl
              obtain ⟨⟨r0, r1, r2, r3⟩, z0, z1, z2, z3⟩ := HV8.out.bx.four;obtain ⟨⟨p0, p1, p2, p3⟩, -⟩ := HA8.out.bx.four;obtain ⟨⟨q0, q1, q2, q3⟩, -⟩ := HB8.out.bx.four;obtain ⟨⟨s0, s1, s2, s3⟩, -⟩ := HC8.out.bx.four;have hne := HV8.out.sz;have hn2 := HA8.out.lt;have hn4 := HB8.out.lt;have hn6 := HC8.out.lt;unfold exV;go_wp2_with fail
              have hkb := kbelow_box w8 (.cells #[.int .i64 xd.k, .int .i64 xd.n, .string xd.s, .slice ad xd.m cd] 50);have hD := HW8.out.four (ce := ca) (cf := cb) (ce' := cc) (cf' := cd) (HA8.out.ks.below hkb) (HB8.out.ks.below hkb) (HC8.out.ks.below hkb) (HKd.out.below hkb) 50 t 4 rfl;have hsz : (w8.alloc (.cells #[.int .i64 xd.k, .int .i64 xd.n, .string xd.s, .slice ad xd.m cd] 50)).heap.size = w8.heap.size + 1 := by simp
              rw [putL_alloc hne, hsz] at hD;refine bodyPost_ret (v := exV (fourX t xa xb xc xd) (some ⟨w8.heap.size + 1, 0, none⟩) 4) ?_ rfl ?_
              rotate_left
              ·exact PRet.got HN.out ⟨some ⟨w8.heap.size + 1, 0, none⟩, 4, rfl, hD.2.1, hD.2.2.1⟩
              obtain ⟨⟨e0, e1, e2, e3⟩, -⟩ := hD.1.four;simp only [exL, putL, Nat.zero_add, Nat.reduceAdd, fourX, noT, Ex.k, Ex.n, Ex.s, Ex.m, List.cons_append, List.nil_append] at e0 e1 e2 e3;simp [results, Tryz.results128, go_sem, e0, e1, e2, e3, exV, fourX, noT, Ex.k, Ex.n, Ex.s, Ex.m]
           ·have HN : Hid (R = none) := by unfold Hid; rw [HR.out, HSa.out, Option.bind_some, HTT.out, Option.bind_some, HSb.out, Option.bind_some, if_pos HQ1.out, HSc.out, Option.bind_some, if_neg c2]
            have HX := Hd (expect_no HW6.out.st.pr (l := [101, 108, 115, 101]) (by simpa using c2));clear c2;go_wp2_with fail
            refine HX.out.mono ?_;rintro e w7 ⟨⟨er, at', h0, rfl⟩, hg⟩;have HG := Hd (And.intro h0 hg);clear h0 hg;go_wp2_with fail
            exact ⟨rfl, PRet.gone HN.out (HW6.out.gave ⟨⟨er, at', HG.out.1, rfl⟩, HG.out.2⟩)⟩
        ·have HN : Hid (R = none) := by unfold Hid; rw [HR.out, HSa.out, Option.bind_some, HTT.out, Option.bind_some, HSb.out, Option.bind_some, if_neg c1]
         have HX := Hd (expect_no HW4.out.st.pr (l := [116, 104, 101, 110]) (by simpa using c1));clear c1;go_wp2_with fail
         refine HX.out.mono ?_;rintro e w5 ⟨⟨er, at', h0, rfl⟩, hg⟩;have HG := Hd (And.intro h0 hg);clear h0 hg;go_wp2_with fail
         exact ⟨rfl, PRet.gone HN.out (HW4.out.gave ⟨⟨er, at', HG.out.1, rfl⟩, HG.out.2⟩)⟩
 ·have HX := Hd (accept_no HW0.out.st.pr (l := [105, 102]) (by simpa using c0));have HXR := Hd (hR.trans (if_neg c0));clear c0 hR
  go_enter Tryz.func128, Tryz.ntmps128
  go_wp2_with fail
  refine HX.out.mono ?_;rintro e w1 ⟨rfl, hs⟩;have HW1 := Hd (HW0.out.step hs);clear hs;have HCC := Hd (HCS.out k _ HW1.out.en HW1.out.st.pr (by omega));clear HX;generalize prs T f .su k = X at HCC HXR;go_wp2_with fail
  refine HCC.out.mono ?_;intro e w2 hp;clear HCC
  rcases hp.cases with ⟨hn, ⟨er, at', h0, rfl⟩, hg⟩ | ⟨x, k1, a, c, hn, rfl, hk, hs⟩
  ·have HN : Hid (R = none) := HXR.out.trans hn;have HG := Hd (And.intro h0 hg);clear h0 hg hn hp;go_wp2_with fail
   exact ⟨rfl, PRet.gone HN.out (HW1.out.gave ⟨⟨er, at', HG.out.1, rfl⟩, HG.out.2⟩)⟩
  ·have HN : Hid (R = some (x, k1)) := HXR.out.trans hn;have HK2 : Hid (KidsP w2 (fun b => w.heap.size < b) x a) := hk.mono fun b hb _ => by have := HW1.out.sz; omega
   have HW2 := Hd (HW1.out.step hs);clear hs;clear hk hn hp;obtain ⟨⟨r0, r1, r2, r3⟩, z0, z1, z2, z3⟩ := HW2.out.bx.four;unfold exV;go_wp2_with fail
   have hD := HW2.out.done (c := c) HK2.out;refine bodyPost_ret (v := exV x a c) ?_ rfl ?_
   rotate_left
   ·exact PRet.got HN.out ⟨a, c, rfl, hD.2.1, hD.2.2⟩
   obtain ⟨⟨e0, e1, e2, e3⟩, -⟩ := hD.1.four;simp only [exL, putL, Nat.zero_add, Nat.reduceAdd] at e0 e1 e2 e3;simp [results, Tryz.results128, go_sem, e0, e1, e2, e3, exV]
theorem con_all {T : List Tk} (hT : TokOk T) (pb g : Nat) : ∀ f, ConE T pb g f /\ ConS T pb g f /\ ConP T pb g f /\ ConA T pb g f := by
 intro f
 induction f using Nat.strongRecOn with
 | _ f ih =>
   cases f with
   | zero => exact ⟨fun k w _ _ h => absurd h (by omega), fun k w _ _ h => absurd h (by omega), fun k w _ _ h => absurd h (by omega), fun k w _ _ h => absurd h (by omega)⟩
   | succ f =>
     obtain ⟨h1, h2, h3, h4⟩ := ih f (by omega);exact ⟨expression_any hT h2 h1, sum_any hT fun f' hf' => (ih f' (by omega)).2.2.1, product_any hT h4, ppart_any hT h4 h1⟩
def lnV (l : Ln) (a : Option Addr) (c : Nat) : Value := .agg #[.int .i64 l.kind, .string l.name, .int .i64 l.ex.k, .int .i64 l.ex.n, .string l.ex.s, .slice a l.ex.m c]
def lnL (l : Ln) (a : Option Addr) (c : Nat) : List Value := [.int .i64 l.kind, .string l.name, .int .i64 l.ex.k, .int .i64 l.ex.n, .string l.ex.s, .slice a l.ex.m c]
def LRet (w w' : World) (pb g : Nat) (T : List Tk) (e : Ending) : Option (Ln × Nat) -> Prop
 | none => Gave w pb e w'
 | some (l, k') => ∃ a c, e = .returned (lnV l a c) /\ KidsP w' (fun b => w.heap.size <= b) l.ex a /\ St w w' pb g T k'
theorem LRet.gone {w w' : World} {pb g : Nat} {T : List Tk} {e : Ending} {R : Option (Ln × Nat)} (hR : R = none) (h : Gave w pb e w') : LRet w w' pb g T e R := by rw [hR]; exact h
theorem LRet.got {w w' : World} {pb g : Nat} {T : List Tk} {e : Ending} {R : Option (Ln × Nat)} {l : Ln} {k : Nat} (hR : R = some (l, k)) (h : ∃ a c, e = .returned (lnV l a c) /\ KidsP w' (fun b => w.heap.size <= b) l.ex a /\ St w w' pb g T k) : LRet w w' pb g T e R := by rw [hR]; exact h
theorem LRet.cases {w w' : World} {pb g : Nat} {T : List Tk} {e : Ending} {R : Option (Ln × Nat)} (h : LRet w w' pb g T e R) : (R = none /\ Gave w pb e w') \/ ∃ l k a c, R = some (l, k) /\ e = .returned (lnV l a c) /\ KidsP w' (fun b => w.heap.size <= b) l.ex a /\ St w w' pb g T k := by
 cases R with
 | none => exact .inl ⟨rfl, h⟩
 | some xk =>
   obtain ⟨x, k⟩ := xk;obtain ⟨a, c, h1, h2, h3⟩ := h;exact .inr ⟨x, k, a, c, rfl, h1, h2, h3⟩
structure Wl (w wi : World) (pb g : Nat) (T : List Tk) (k : Nat) : Prop where
 st : St w wi pb g T k
 bx : Bxs wi w.heap.size [.int .i64 0, .string ⟨#[]⟩, .int .i64 0, .int .i64 0, .string ⟨#[]⟩, .slice none 0 0]
 sz : w.heap.size < wi.heap.size
 en : PEnv wi pb
theorem Wl.start {w : World} {pb g k : Nat} {T : List Tk} (h : PrA w pb g T k) (hE : PEnv w pb) : Wl w (w.alloc (.cells #[.int .i64 0, .string ⟨#[]⟩, .int .i64 0, .int .i64 0, .string ⟨#[]⟩, .slice none 0 0] 52)) pb g T k :=
 ⟨(St.refl h).below (kbelow_box _ _), Bxs.made w [.int .i64 0, .string ⟨#[]⟩, .int .i64 0, .int .i64 0, .string ⟨#[]⟩, .slice none 0 0] _, by simp, hE.below (kbelow_box _ _)⟩
theorem Wl.step {w wi wj : World} {pb g k j : Nat} {T : List Tk} (h : Wl w wi pb g T k) (hs : St wi wj pb g T j) : Wl w wj pb g T j :=
 ⟨h.st.trans hs, h.bx.st hs h.sz h.st.lo.1, Nat.lt_of_lt_of_le h.sz hs.size, h.en.st hs⟩
theorem Wl.below {w wi wj : World} {pb g k : Nat} {T : List Tk} (h : Wl w wi pb g T k) (hb : Below wi.heap.size wi wj) : Wl w wj pb g T k :=
 ⟨h.st.below hb, h.bx.below hb h.sz, Nat.lt_of_lt_of_le h.sz hb.size, h.en.below hb⟩
theorem Wl.gave {w wi w' : World} {pb g k : Nat} {T : List Tk} {e : Ending} (h : Wl w wi pb g T k) (hg : Gave wi pb e w') : Gave w pb e w' := hg.mono h.st.gr
theorem Wl.done {w wi : World} {pb g k : Nat} {T : List Tk} {l : Ln} {a : Option Addr} {c : Nat} (h : Wl w wi pb g T k) (hk : KidsP wi (fun b => w.heap.size < b) l.ex a) :
 Bxs (putL wi w.heap.size 0 (lnL l a c)) w.heap.size (lnL l a c) /\ KidsP (putL wi w.heap.size 0 (lnL l a c)) (fun b => w.heap.size <= b) l.ex a /\ St w (putL wi w.heap.size 0 (lnL l a c)) pb g T k :=
 ⟨h.bx.put (lnL l a c) rfl, (hk.put (fun b hb => by omega) 0 _).mono fun b hb _ => Nat.le_of_lt hb, h.st.put (Nat.le_refl _) 0 _⟩
theorem line_any {T : List Tk} {pb g : Nat} (hT : TokOk T) (k : Nat) (c0 : Nat) (w : World) (hE : PEnv w pb) (h : PrA w pb g T k) :
 Calls Tryz.prog 85 #[.pointer (some ⟨pb, 0, none⟩), .int .i64 (c0 : Int)] w fun e w' => LRet w w' pb g T e (if c0 = 40 then none else lnT T k) := by
 generalize hR : (if c0 = 40 then none else lnT T k) = R;have HR := Hd hR;clear hR;have HW0 := Hd (Wl.start h hE);have HT := Hd hT;have hkl := h.2;have hpl : pb < w.heap.size := h.lt;have HPK := Hd (peekA HW0.out.st.pr);have HLK := Hd (lineKind_any T k);obtain ⟨r, hr⟩ : ∃ r, tkth T k = r := ⟨_, rfl⟩;rw [hr] at HPK HLK;obtain ⟨rk, rt, rn, rp, ro⟩ := r
 dsimp only at HLK
 have HTK := Hd hr;have HLE : Hid (lnT T k = if lkT T k = 0 then none else (namT T (k + 1)).bind fun s => if isT T (k + 2) [61] then (prs T (fuelT T) .ex (k + 3)).bind fun a => if isT T a.2 [59] then if 20 < a.1.depth then none else some (⟨lkT T k, s, a.1⟩, a.2 + 1) else none else none) := rfl;clear h hE hT hr
 go_enter Tryz.func85, Tryz.ntmps85
 go_wp2_with fail
 refine HPK.out.mono ?_;rintro e w1 ⟨rfl, hb⟩;have HV1 := Hd (HW0.out.below hb);have HW1 := Hd (HV1.out.below (kbelow_box w1 (.cells #[.int .i64 rk, .string rt, .int .i64 rn, .bool rp, .int .i64 ro] 94)));have HB1 := Hd (Bxs.made w1 (tqL ⟨rk, rt, rn, rp, ro⟩) 94);have hl1 : w1.heap.size < (w1.alloc (.cells #[.int .i64 rk, .string rt, .int .i64 rn, .bool rp, .int .i64 ro] 94)).heap.size := by simp
 have hg1 : w.heap.size < w1.heap.size := HV1.out.sz;unfold tqL at HB1;clear hb HPK;unfold tqV;go_wp2_with fail
 refine (HLK.out _ HW1.out.en.lw).mono ?_;rintro e w2 ⟨rfl, hw⟩;have hw' : w2 = w1.alloc (.cells #[.int .i64 rk, .string rt, .int .i64 rn, .bool rp, .int .i64 ro] 94) := hw;clear hw;rw [<- hw'] at HW1 HB1 hl1;clear hw';have HLP : Hid (lkT T k ≠ 0 -> k + 1 < T.length) := fun hz => by
  by_cases e : k = T.length - 1
  ·exact absurd (by
    have hE := HT.out.endT;rw [<- e] at hE;unfold lkT isT;rw [hE];rfl) hz
  ·omega
 obtain ⟨kd, hkd⟩ : ∃ kd, lkT T k = kd := ⟨_, rfl⟩;rw [hkd] at HLE HLP ⊢;clear hkd;obtain ⟨⟨b0, b1, b2, b3, b4⟩, -⟩ := HB1.out.five
 by_cases q0 : kd = 0
 ·have HN : Hid (R = none) := by unfold Hid; rw [<- HR.out, HLE.out, if_pos q0]; exact ite_self _
  subst q0;go_wp2_with fail
  refine (rgive_any 1 ro w2).mono ?_;rintro e w9 ⟨rfl, hw⟩;subst w9;go_wp2_with fail
  exact ⟨rfl, LRet.gone HN.out ⟨⟨1, ro, by decide, rfl⟩, HW1.out.st.gr⟩⟩
 have d0 : (kd == 0) = false := by simp [q0]
 have d0' : decide (kd = 0) = false := dEf q0;have HQ0 := Hd q0
 by_cases q1 : c0 = 40
 ·have HN : Hid (R = none) := by unfold Hid; rw [<- HR.out, if_pos q1]
  subst q1;clear q0;go_wp2_with fail
  refine (rgive_any 2 ro w2).mono ?_;rintro e w9 ⟨rfl, hw⟩;subst w9;go_wp2_with fail
  exact ⟨rfl, LRet.gone HN.out ⟨⟨2, ro, by decide, rfl⟩, HW1.out.st.gr⟩⟩
 have d1 : ((c0 : Int) == 40) = false := by simp; omega
 have d1' : decide ((c0 : Int) = 40) = false := dEf (by omega);have HRL : Hid (R = (namT T (k + 1)).bind fun s => if isT T (k + 2) [61] then (prs T (fuelT T) .ex (k + 3)).bind fun a => if isT T a.2 [59] then if 20 < a.1.depth then none else some (⟨kd, s, a.1⟩, a.2 + 1) else none else none) := by unfold Hid; rw [<- HR.out, if_neg q1, HLE.out, if_neg HQ0.out]
 clear q1 q0;go_wp2_with fail
 refine (nextA HW1.out.st.pr (HLP.out HQ0.out)).mono ?_;rintro e w3 ⟨rfl, hs⟩;have HW3 := Hd (HW1.out.step hs);have HB3 := Hd (HB1.out.st hs hl1 (by omega));have hl3 : w1.heap.size < w3.heap.size := Nat.lt_of_lt_of_le hl1 hs.size;clear hs b0 b1 b2 b3 b4
 cases hn : namT T (k + 1) with
 | none =>
   have HN : Hid (R = none) := by unfold Hid; rw [HRL.out, hn]; rfl
   go_wp2_with fail
   refine (name_no HW3.out.st.pr hn).mono ?_;rintro e w4 ⟨⟨er, at', h0, rfl⟩, hg⟩;have HG := Hd (And.intro h0 hg);clear h0 hg;go_wp2_with fail
   exact ⟨rfl, LRet.gone HN.out (HW3.out.gave ⟨⟨er, at', HG.out.1, rfl⟩, HG.out.2⟩)⟩
 | some s =>
   go_wp2_with fail
   refine (name_yes HT.out HW3.out.st.pr hn).mono ?_;rintro e w4 ⟨rfl, hs⟩;have HW4 := Hd (HW3.out.step hs);have HB4 := Hd (HB3.out.st hs hl3 (by omega));have hl4 : w1.heap.size < w4.heap.size := Nat.lt_of_lt_of_le hl3 hs.size;have HSN := Hd hn;clear hs hn
   by_cases q2 : isT T (k + 2) [61] = true
   ·have HQ2 := Hd q2;clear q2;go_wp2_with fail
    refine (expect_yes HT.out HW4.out.st.pr HQ2.out (by simp)).mono ?_;rintro e w5 ⟨rfl, hs⟩;have HW5 := Hd (HW4.out.step hs);have HB5 := Hd (HB4.out.st hs hl4 (by omega));have hl5 : w1.heap.size < w5.heap.size := Nat.lt_of_lt_of_le hl4 hs.size;clear hs;have HCC := Hd ((con_all HT.out pb g (fuelT T)).1 (k + 3) w5 HW5.out.en HW5.out.st.pr (by unfold fuelT; omega))
    cases hr : prs T (fuelT T) .ex (k + 3) with
    | none =>
      rw [hr] at HCC;have HN : Hid (R = none) := by unfold Hid; rw [HRL.out, HSN.out, Option.bind_some, if_pos HQ2.out, hr]; rfl
      clear hr;go_wp2_with fail
      refine HCC.out.mono ?_;rintro e w6 ⟨⟨er, at', h0, rfl⟩, hg⟩;have HG := Hd (And.intro h0 hg);clear h0 hg;go_wp2_with fail
      exact ⟨rfl, LRet.gone HN.out (HW5.out.gave ⟨⟨er, at', HG.out.1, rfl⟩, HG.out.2⟩)⟩
    | some xk =>
      obtain ⟨x, k1⟩ := xk;have hok := prs_ok HT.out _ _ _ _ _ rfl HW5.out.st.pr.2 hr;have HDP : Hid (x.depth <= 1000000) := by
       have h1 := hok.deep;have h2 := hok.lt;have h3 := HT.out.long;simp only [baseD] at h1;unfold Hid;omega
      clear hok;rw [hr] at HCC;have HSX := Hd hr;clear hr;go_wp2_with fail
      refine HCC.out.mono ?_;rintro e w6 ⟨a, c, rfl, hk, hs⟩;have HK6 : Hid (KidsP w6 (fun b => w.heap.size < b) x a) := hk.mono fun b hb _ => by have := HW5.out.sz; omega
      have HW6 := Hd (HW5.out.step hs);have HB6 := Hd (HB5.out.st hs hl5 (by omega));have hl6 : w1.heap.size < w6.heap.size := Nat.lt_of_lt_of_le hl5 hs.size;clear hs hk HCC;have hkb := kbelow_box w6 (.cells #[.int .i64 x.k, .int .i64 x.n, .string x.s, .slice a x.m c] 50);have HW7 := Hd (HW6.out.below hkb);have HB7 := Hd (HB6.out.below hkb hl6);have HL7 : Hid (Loc w (w6.alloc (.cells #[.int .i64 x.k, .int .i64 x.n, .string x.s, .slice a x.m c] 50)) w6.heap.size x a c) := ⟨Bxs.made w6 (exL x a c) _, by simp, HW6.out.sz, HK6.out.below hkb⟩;have hl7 : w1.heap.size < (w6.alloc (.cells #[.int .i64 x.k, .int .i64 x.n, .string x.s, .slice a x.m c] 50)).heap.size := Nat.lt_of_lt_of_le hl6 hkb.size;clear hkb;unfold exV
      by_cases q3 : isT T k1 [59] = true
      ·have HQ3 := Hd q3;clear q3;go_wp2_with fail
       refine (expect_yes HT.out HW7.out.st.pr HQ3.out (by simp)).mono ?_;rintro e w8 ⟨rfl, hs⟩;have HW8 := Hd (HW7.out.step hs);have HB8 := Hd (HB7.out.st hs hl7 (by omega));have hl8 : w1.heap.size < w8.heap.size := Nat.lt_of_lt_of_le hl7 hs.size;have HL8 := Hd (HL7.out.step hs hpl);clear hs;obtain ⟨⟨p0, p1, p2, p3⟩, -⟩ := HL8.out.bx.four;go_wp2_with fail
       refine (depth_any x a c w8 HDP.out HL8.out.ks.kids).mono ?_;rintro e w10 ⟨rfl, hb⟩;have HW10 := Hd (HW8.out.below hb);have HB10 := Hd (HB8.out.below hb hl8);have HL10 := Hd (HL8.out.below hb);clear hb p0 p1 p2 p3;obtain ⟨⟨p0, p1, p2, p3⟩, -⟩ := HL10.out.bx.four;obtain ⟨⟨b0, b1, b2, b3, b4⟩, -⟩ := HB10.out.five;obtain ⟨⟨r0, r1, r2, r3, r4, r5⟩, z0, z1, z2, z3, z4, z5⟩ := HW10.out.bx.six;have HRX : Hid (R = if 20 < x.depth then none else some (⟨kd, s, x⟩, k1 + 1)) := by unfold Hid; rw [HRL.out, HSN.out, Option.bind_some, if_pos HQ2.out, HSX.out, Option.bind_some, if_pos HQ3.out]
       obtain ⟨dd, hdd⟩ : ∃ dd, x.depth = dd := ⟨_, rfl⟩;rw [hdd] at HRX ⊢;clear hdd
       by_cases q4 : 20 < dd
       ·have HN : Hid (R = none) := by unfold Hid; rw [HRX.out, if_pos q4]
        have q4' : (20 : Int) < (dd : Int) := by omega
        go_wp2_with fail
        refine (rgive_any 2 ro w10).mono ?_;rintro e w9 ⟨rfl, hw⟩;subst w9;go_wp2_with fail
        exact ⟨rfl, LRet.gone HN.out ⟨⟨2, ro, by decide, rfl⟩, HW10.out.st.gr⟩⟩
       ·have HN : Hid (R = some (⟨kd, s, x⟩, k1 + 1)) := by unfold Hid; rw [HRX.out, if_neg q4]
        have q4B : decide ((20 : Int) < (dd : Int)) = false := dEf (by omega);have hne := HL10.out.gt;go_wp2_with fail
        have hD := HW10.out.done (l := ⟨kd, s, x⟩) (c := c) HL10.out.ks;refine bodyPost_ret (v := lnV ⟨kd, s, x⟩ a c) ?_ rfl ?_
        rotate_left
        ·exact LRet.got HN.out ⟨a, c, rfl, hD.2.1, hD.2.2⟩
        obtain ⟨⟨e0, e1, e2, e3, e4, e5⟩, -⟩ := hD.1.six;simp only [lnL, putL, Nat.zero_add, Nat.reduceAdd] at e0 e1 e2 e3 e4 e5;simp [results, Tryz.results85, go_sem, e0, e1, e2, e3, e4, e5, lnV]
      ·have HN : Hid (R = none) := by unfold Hid; rw [HRL.out, HSN.out, Option.bind_some, if_pos HQ2.out, HSX.out, Option.bind_some, if_neg q3]
       have HX := Hd (expect_no HW7.out.st.pr (l := [59]) (by simpa using q3));clear q3;go_wp2_with fail
       refine HX.out.mono ?_;rintro e w8 ⟨⟨er, at', h0, rfl⟩, hg⟩;have HG := Hd (And.intro h0 hg);clear h0 hg;go_wp2_with fail
       exact ⟨rfl, LRet.gone HN.out (HW7.out.gave ⟨⟨er, at', HG.out.1, rfl⟩, HG.out.2⟩)⟩
   ·have HN : Hid (R = none) := by unfold Hid; rw [HRL.out, HSN.out, Option.bind_some, if_neg q2]
    have HX := Hd (expect_no HW4.out.st.pr (l := [61]) (by simpa using q2));clear q2;go_wp2_with fail
    refine HX.out.mono ?_;rintro e w5 ⟨⟨er, at', h0, rfl⟩, hg⟩;have HG := Hd (And.intro h0 hg);clear h0 hg;go_wp2_with fail
    exact ⟨rfl, LRet.gone HN.out (HW4.out.gave ⟨⟨er, at', HG.out.1, rfl⟩, HG.out.2⟩)⟩
end Go.Proofs.YtmlpedgcpffpnaaGreatDoor
