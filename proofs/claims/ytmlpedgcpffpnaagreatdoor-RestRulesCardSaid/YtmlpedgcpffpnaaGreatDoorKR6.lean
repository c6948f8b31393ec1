/-
  Promise P2, of rules: the reference's reader: the walk of sum.
-/
import Derived.Test.YtmlpedgcpffpnaaGreatDoorKZ0
import Derived.Test.YtmlpedgcpffpnaaGreatDoorKZ1
import Derived.Test.YtmlpedgcpffpnaaGreatDoorKR5
import Derived.Test.YtmlpedgcpffpnaaGreatDoorKQO
import Derived.Deep.RegionHeldLaw
import Derived.Test.YtmlpedgcpffpnaaGreatDoorKQP
set_option linter.unusedSimpArgs false
set_option maxRecDepth 100000
set_option maxHeartbeats 8000000
namespace Go.Proofs.YtmlpedgcpffpnaaGreatDoor
open Go.RowKit
structure SuB (w w' : World) (g n c : Nat) (z : Int) : Prop where
 bel : Below w.heap.size w w'
 t : Bxs w' w.heap.size [.slice (some ⟨g, 0, none⟩) n c, .int .i64 z]
 o : Bxs w' (w.heap.size + 1) rd0
 lt : w.heap.size + 1 < w'.heap.size
theorem SuB.below {w w1 w2 : World} {g n c : Nat} {z : Int} (h : SuB w w1 g n c z) (hb : Below w1.heap.size w1 w2) : SuB w w2 g n c z :=
 have := h.lt
 ⟨h.bel.trans (hb.mono h.bel.size), h.t.below hb (by omega), h.o.below hb (by omega), Nat.lt_of_lt_of_le h.lt hb.size⟩
theorem SuB.made (w : World) (g n c : Nat) (z : Int) (T U : TypeId) : SuB w ((w.alloc (.cells #[.slice (some ⟨g, 0, none⟩) n c, .int .i64 z] T)).alloc (.cells #[.int .i64 0, .int .i64 0, .string ⟨#[]⟩, .slice none 0 0, .int .i64 0, .int .i64 0, .int .i64 0] U)) g n c z :=
 ⟨(kbelow_box w _).alloc (by simp) _, (Bxs.made_at w rfl [.slice (some ⟨g, 0, none⟩) n c, .int .i64 z] T).below (kbelow_box _ _) (by simp), Bxs.made_at (w.alloc _) (g := w.heap.size + 1) (by simp) rd0 U, by simp⟩
theorem SuB.putA {w w' : World} {g n c : Nat} {z : Int} {ab : Nat} (h : SuB w w' g n c z) (ha : w.heap.size + 1 < ab) (us : List Value) : SuB w (putL w' ab 0 us) g n c z :=
 ⟨putL_below h.bel (by omega) us, h.t.to (putL_block ab (by omega) us 0 w'), h.o.to (putL_block ab (by omega) us 0 w'), by rw [putL_size]; exact h.lt⟩
theorem SuB.done {w w' : World} {g n c : Nat} {z : Int} (h : SuB w w' g n c z) {x : Ex} {a : Option Addr} (cx k : Nat) (hk : KidsP w' (fun b => w.heap.size + 1 < b) x a) :
 Bxs (putL w' (w.heap.size + 1) 0 (rdL x a cx k)) (w.heap.size + 1) (rdL x a cx k) /\ KidsP (putL w' (w.heap.size + 1) 0 (rdL x a cx k)) (fun b => w.heap.size <= b) x a /\ Below w.heap.size w (putL w' (w.heap.size + 1) 0 (rdL x a cx k)) :=
 ⟨h.o.put _ rfl, (hk.put (fun b hb => by omega) 0 _).mono fun b hb _ => by omega, putL_below h.bel (by omega) _⟩
structure RdB (w wr : World) (rb : Nat) (y : Ex) (ay : Option Addr) (cy kj : Nat) : Prop where
 bx : Bxs wr rb (rdL y ay cy kj)
 ks : KidsP wr (fun b => w.heap.size + 1 < b /\ b ≠ rb) y ay
 lt : rb < wr.heap.size
 gt : w.heap.size + 1 < rb
theorem RdB.below {w w1 w2 : World} {rb : Nat} {y : Ex} {ay : Option Addr} {cy kj : Nat} (h : RdB w w1 rb y ay cy kj) (hb : Below w1.heap.size w1 w2) : RdB w w2 rb y ay cy kj :=
 ⟨h.bx.below hb h.lt, h.ks.below hb, Nat.lt_of_lt_of_le h.lt hb.size, h.gt⟩
def leftR (w : World) (rb m : Nat) : Nat := match w.cell? ⟨rb, 4, none⟩ with
 | some (.int _ z) => m - z.toNat
 | _ => 0
theorem RdB.left {w wr : World} {rb : Nat} {y : Ex} {ay : Option Addr} {cy kj : Nat} (h : RdB w wr rb y ay cy kj) (m : Nat) : leftR wr rb m = m - kj := by
 unfold leftR;rw [h.bx.at_ 4 rfl];simp
theorem sum_ref {s0 : ByteArray} {L T : List Tk} {g n c : Nat} {z : Int} {f : Nat} (hRK : RkL s0 L T) (hn : L.length = n) (hP : ∀ f', f' <= f -> RdF 146 T L g n c z .pr f') : RdF 106 T L g n c z .su (f + 1) := by
 intro k x k' h hk w hT;rw [prs_su] at h;obtain ⟨⟨y0, k0⟩, h1, h2⟩ := Option.bind_eq_some_iff.1 h;have HRK := Hd hRK;have HN := Hd hn;have HP := Hd hP;have HT := Hd hT;have HOP := Hd (hP f (Nat.le_refl _) k y0 k0 h1 hk);have HK0 := Hd (prs_ok hRK.ok _ _ _ _ _ rfl hk h1).lt;have HQ := Hd h2;have HP0 := Hd (SuB.made w g n c z 118 122);clear h h1 h2 hRK hn hP hT hk;unfold tksV
 go_enter Tryz.func106, Tryz.ntmps106
 go_wp2_with fail
 refine (HOP.out _ (HT.out.below HP0.out.bel HT.out.1)).mono ?_;rintro e w4 ⟨ay0, cy0, rfl, hk4, hb⟩;have HP4 := Hd (HP0.out.below hb);have HK4 := Hd (hk4.mono (Q := fun b => w.heap.size + 1 < b /\ b ≠ w4.heap.size) (fun b hb hB => ⟨by have := HP0.out.lt; omega, by omega⟩));have HPA := Hd (HP4.out.below (kbelow_box w4 (.cells #[.int .i64 y0.k, .int .i64 y0.n, .string y0.s, .slice ay0 y0.m cy0, .int .i64 k0, .int .i64 0, .int .i64 0] 122)));have HRA : Hid (RdB w (w4.alloc (.cells #[.int .i64 y0.k, .int .i64 y0.n, .string y0.s, .slice ay0 y0.m cy0, .int .i64 k0, .int .i64 0, .int .i64 0] 122)) w4.heap.size y0 ay0 cy0 k0) := Hd ⟨Bxs.made w4 (rdL y0 ay0 cy0 k0) _, HK4.out.below (kbelow_box _ _), by simp, HP4.out.lt⟩;clear hb hk4 HP4 HK4 HOP HP0;unfold rdV;go_wp2_with fail
 generalize (w4.alloc (.cells #[.int .i64 y0.k, .int .i64 y0.n, .string y0.s, .slice ay0 y0.m cy0, .int .i64 k0, .int .i64 0, .int .i64 0] 122)) = v4 at HPA HRA ⊢;generalize w4.heap.size = rb at HRA ⊢
 go_loopw [6] (fun _ wr => ∃ (y : Ex) (ay : Option Addr) (cy kj fq : Nat), SuB w wr g n c z /\ RdB w wr rb y ay cy kj /\ prs T fq (.sl y) kj = some (x, k') /\ kj < T.length /\ fq <= f) (fun _ wr => leftR wr rb T.length)
 case atStart => exact ⟨y0, ay0, cy0, k0, f, HPA.out, HRA.out, HQ.out, HK0.out, Nat.le_refl _⟩
 case round =>
  clear HPA HRA HQ HK0;obtain ⟨y, ay, cy, kj, fq, hp, hr, hq, hkj, hfq⟩ := hrel;have HPV := Hd hp;have HRV := Hd hr;have HSV := Hd (Nat.le_refl wr.heap.size);have HML := Hd (hr.left T.length);have HKJ := Hd hkj;clear hp hr hkj
  cases fq with
  | zero => cases hq
  | succ fq =>
    rw [prs_sl] at hq;obtain ⟨⟨t0, t1⟩, ft0, ft1⟩ := HPV.out.t.pair;obtain ⟨⟨r0, r1, r2, r3, r4, r5, r6⟩, fr0, fr1, fr2, fr3, fr4, fr5, fr6⟩ := HRV.out.bx.seven
    by_cases c1 : isT T kj [43] = true
    ·rw [if_pos c1] at hq;have i1 := isR_yes HRK.out HKJ.out c1 (by decide +kernel) (by decide);have i2 : isR L kj ⟨#[45]⟩ = false := isR_no (l := [45]) HRK.out (fun q => by rw [isT_eq] at c1 q; rw [c1] at q; exact absurd q (by decide));go_wp2_with fail
     refine (is_ref L g n c z kj ⟨#[43]⟩ _ (HT.out.below HPV.out.bel HT.out.1) HN.out).mono ?_;rintro e w' ⟨rfl, hb⟩;rw [i1];replace HPV := Hd (HPV.out.below hb);replace HRV := Hd (HRV.out.below hb);replace HSV := Hd (Nat.le_trans HSV.out hb.size);clear hb r0 r1 r2 r3 r4 r5 r6 fr0 fr1 fr2 fr3 fr4 fr5 fr6 t0 t1 ft0 ft1;obtain ⟨⟨t0, t1⟩, ft0, ft1⟩ := HPV.out.t.pair;obtain ⟨⟨r0, r1, r2, r3, r4, r5, r6⟩, fr0, fr1, fr2, fr3, fr4, fr5, fr6⟩ := HRV.out.bx.seven;go_wp2_with fail
     refine (is_ref L g n c z kj ⟨#[45]⟩ _ (HT.out.below HPV.out.bel HT.out.1) HN.out).mono ?_;rintro e w' ⟨rfl, hb⟩;rw [i2];replace HPV := Hd (HPV.out.below hb);replace HRV := Hd (HRV.out.below hb);replace HSV := Hd (Nat.le_trans HSV.out hb.size);clear hb r0 r1 r2 r3 r4 r5 r6 fr0 fr1 fr2 fr3 fr4 fr5 fr6 t0 t1 ft0 ft1;obtain ⟨⟨t0, t1⟩, ft0, ft1⟩ := HPV.out.t.pair;obtain ⟨⟨r0, r1, r2, r3, r4, r5, r6⟩, fr0, fr1, fr2, fr3, fr4, fr5, fr6⟩ := HRV.out.bx.seven;have HKN := Hd (HRK.out.ok.text HKJ.out c1 (by simp));obtain ⟨⟨y2, k2⟩, h5, hq⟩ := Option.bind_eq_some_iff.1 hq;have hpr := prs_ok HRK.out.ok _ _ _ _ _ rfl HKN.out h5;have hlow := hpr.low;simp only [lowL] at hlow;have HOP := Hd (HP.out fq (by omega) (kj + 1) y2 k2 h5 HKN.out);have HQ2 := Hd hq;have HLO := Hd (And.intro hpr.lt hlow);obtain ⟨kc, hkc⟩ : ∃ kc, kc = kj + 1 := ⟨_, rfl⟩;have wk : IntKind.i64.wrap ((kj : Int) + 1) = (kc : Int) := by have := HRK.out.ok.long; have := HKJ.out; rw [IntWalk.i64_in _ (by omega)]; omega
     rw [<- hkc] at HOP HLO;have HKC := Hd hkc;clear h5 hq hpr hlow hkc c1;go_wp2_with fail
     have HTV := Hd (HT.out.below HPV.out.bel HT.out.1);refine wp_region_held_drew (S := fun w' => w'.cell? ⟨w.heap.size, 0, none⟩ = some (.slice (some ⟨g, 0, none⟩) n c) /\ w'.cell? ⟨w.heap.size, 1, none⟩ = some (.int .i64 z)) (by kernel_rfl) ⟨t0, t1⟩ (fun hHeld => ?_);refine tkH 0 (.agg #[.slice (some ⟨g, 0, none⟩) n c, .int .i64 z]) rfl (fun w' hSw => ?_) ?_
     ·((try dsimp only at hSw); go_simp; try with_reducible rfl)
     try simp only [Act.put, layS]
     refine tkH 1 (.int .i64 7) rfl (fun w' hSw => ?_) ?_
     ·((try dsimp only at hSw); go_simp; try with_reducible rfl)
     try simp only [Act.put, layS]
     refine tkH 2 (.agg #[.int .i64 7, .int .i64 0, .string ⟨#[]⟩, .slice none 0 0]) rfl (fun w' hSw => ?_) ?_
     ·((try dsimp only at hSw); go_simp; try with_reducible rfl)
     try simp only [Act.put, layS]
     refine tkH 4 (.agg #[.slice (some ⟨g, 0, none⟩) n c, .int .i64 z]) rfl (fun w' hSw => ?_) ?_
     ·((try dsimp only at hSw); go_simp; try with_reducible rfl)
     try simp only [Act.put, layS]
     refine tkH 5 (.pointer (some ⟨rb, 4, none⟩)) rfl (fun w' hSw => ?_) ?_
     ·((try dsimp only at hSw); go_simp; try with_reducible rfl)
     try simp only [Act.put, layS]
     refine rd2 3 6 rfl (fun K hK => ?_) rfl (fun K hK => ?_)
     ·go_simp;refine hK.out _ _ ⟨t0, t1⟩ (fun hHeld => ?_);clear hK K
      try simp only [Act.put, layS]
      refine rd1 6 rfl (fun K hK => ?_);go_simp;refine hK.out _ _ ⟨t0, t1⟩ (fun hHeld => ?_);clear hK K
      try simp only [Act.put, layS]
      refine tkH 7 (.int .i64 (kc : Int)) rfl (fun w' hSw => ?_) ?_
      ·((try dsimp only at hSw); go_simp; try with_reducible rfl)
      try simp only [Act.put, layS]
      refine rd1 8 rfl (fun K hK => ?_);go_simp;refine (HOP.out _ (HTV.out.below (kbelow_dN (Below.refl _ _) _) HTV.out.1)).mono ?_;rintro e w5 ⟨a5, c5, rfl, hk5, hb⟩;have HB5 := Hd (Below.trans (kbelow_dN (Below.refl _ _) 1) hb);have HP5 := Hd (HPV.out.below HB5.out);have HR5 := Hd (HRV.out.below HB5.out);have HY5 := Hd (hk5.mono (Q := fun b => w.heap.size + 1 < b /\ b ≠ rb) (fun b hb _ => by have h1 := Nat.lt_of_lt_of_le HRV.out.lt hb; have h2 := HRV.out.gt; exact ⟨Nat.lt_trans h2 h1, by omega⟩));clear hb hk5 hHeld r0 r1 r2 r3 r4 r5 r6 fr0 fr1 fr2 fr3 fr4 fr5 fr6 t0 t1 ft0 ft1;obtain ⟨⟨t0, t1⟩, ft0, ft1⟩ := HP5.out.t.pair;obtain ⟨⟨r0, r1, r2, r3, r4, r5, r6⟩, fr0, fr1, fr2, fr3, fr4, fr5, fr6⟩ := HR5.out.bx.seven;unfold rdV
      try go_wp2_with fail
      refine hK.out _ _ ⟨t0, t1⟩ (fun hHeld => ?_);clear hK K
      try simp only [Act.put, layS]
      refine rd1 9 rfl (fun K hK => ?_);go_simp;refine (two_ref g n c z 7 y y2 ay a5 cy c5 kj k2 _ (fun b => w.heap.size + 1 < b /\ b ≠ rb) (fun b hb => by have h1 := Nat.lt_of_lt_of_le HR5.out.lt hb; have h2 := HR5.out.gt; exact ⟨Nat.lt_trans h2 h1, by omega⟩) HR5.out.ks HY5.out).mono ?_;rintro e w6 ⟨a6, c6, rfl, hk6, hb⟩;have HP6 := Hd (HP5.out.below hb);have HR6 := Hd (HR5.out.below hb);have HK6 := Hd hk6;clear hb hk6 hHeld r0 r1 r2 r3 r4 r5 r6 fr0 fr1 fr2 fr3 fr4 fr5 fr6 t0 t1 ft0 ft1;obtain ⟨⟨t0, t1⟩, ft0, ft1⟩ := HP6.out.t.pair;obtain ⟨⟨r0, r1, r2, r3, r4, r5, r6⟩, fr0, fr1, fr2, fr3, fr4, fr5, fr6⟩ := HR6.out.bx.seven;unfold rdV
      try go_wp2_with fail
      refine hK.out _ _ ⟨t0, t1⟩ (fun hHeld => ?_);clear hK K
      try simp only [Act.put, layS]
      refine rd1 10 rfl (fun K hK => ?_);have hV := HR6.out.bx.put (rdL (twoX 7 y y2) a6 c6 k2) rfl;have hK' := HK6.out.put (c := rb) (fun b hb => hb.2) 0 (rdL (twoX 7 y y2) a6 c6 k2);have hP := HP6.out.putA (ab := rb) HR6.out.gt (rdL (twoX 7 y y2) a6 c6 k2);have hZ := putL_size rb (rdL (twoX 7 y y2) a6 c6 k2) 0 w6;have hl6 := HR6.out.lt;have hg6 := HR6.out.gt;simp only [rdL, putL, Nat.zero_add, Nat.reduceAdd] at hV hK' hP hZ;have HPN := Hd hP;have HRN : Hid (RdB w _ rb (twoX 7 y y2) a6 c6 k2) := Hd ⟨hV, hK', by rw [hZ]; exact hl6, hg6⟩;clear hV hK' hP hZ;go_simp;refine hK.out _ _ HPN.out.t.pair.1 (fun hHeld => ?_);clear hK K;refine wpAnyH_done (by kernel_rfl) ?_ _;go_wp2_with fail
      go_roundw
      case rel => exact ⟨twoX 7 y y2, a6, c6, k2, fq, HPN.out, HRN.out, HQ2.out, HLO.out.1, by omega⟩
      case measure =>
       have hl9 := HRN.out.left T.length;rw [hl9, HML.out];have := HLO.out;have := HKC.out;omega
     ·go_simp;refine hK.out _ _ ⟨t0, t1⟩ (fun hHeld => ?_);clear hK K
      try simp only [Act.put, layS]
      refine tkH 7 (.int .i64 (kc : Int)) rfl (fun w' hSw => ?_) ?_
      ·((try dsimp only at hSw); go_simp; try with_reducible rfl)
      try simp only [Act.put, layS]
      refine rd2 3 8 rfl (fun K hK => ?_) rfl (fun K hK => ?_)
      ·go_simp;refine hK.out _ _ ⟨t0, t1⟩ (fun hHeld => ?_);clear hK K
       try simp only [Act.put, layS]
       refine rd1 8 rfl (fun K hK => ?_);go_simp;refine (HOP.out _ (HTV.out.below (kbelow_dN (Below.refl _ _) _) HTV.out.1)).mono ?_;rintro e w5 ⟨a5, c5, rfl, hk5, hb⟩;have HB5 := Hd (Below.trans (kbelow_dN (Below.refl _ _) 1) hb);have HP5 := Hd (HPV.out.below HB5.out);have HR5 := Hd (HRV.out.below HB5.out);have HY5 := Hd (hk5.mono (Q := fun b => w.heap.size + 1 < b /\ b ≠ rb) (fun b hb _ => by have h1 := Nat.lt_of_lt_of_le HRV.out.lt hb; have h2 := HRV.out.gt; exact ⟨Nat.lt_trans h2 h1, by omega⟩));clear hb hk5 hHeld r0 r1 r2 r3 r4 r5 r6 fr0 fr1 fr2 fr3 fr4 fr5 fr6 t0 t1 ft0 ft1;obtain ⟨⟨t0, t1⟩, ft0, ft1⟩ := HP5.out.t.pair;obtain ⟨⟨r0, r1, r2, r3, r4, r5, r6⟩, fr0, fr1, fr2, fr3, fr4, fr5, fr6⟩ := HR5.out.bx.seven;unfold rdV
       try go_wp2_with fail
       refine hK.out _ _ ⟨t0, t1⟩ (fun hHeld => ?_);clear hK K
       try simp only [Act.put, layS]
       refine rd1 9 rfl (fun K hK => ?_);go_simp;refine (two_ref g n c z 7 y y2 ay a5 cy c5 kj k2 _ (fun b => w.heap.size + 1 < b /\ b ≠ rb) (fun b hb => by have h1 := Nat.lt_of_lt_of_le HR5.out.lt hb; have h2 := HR5.out.gt; exact ⟨Nat.lt_trans h2 h1, by omega⟩) HR5.out.ks HY5.out).mono ?_;rintro e w6 ⟨a6, c6, rfl, hk6, hb⟩;have HP6 := Hd (HP5.out.below hb);have HR6 := Hd (HR5.out.below hb);have HK6 := Hd hk6;clear hb hk6 hHeld r0 r1 r2 r3 r4 r5 r6 fr0 fr1 fr2 fr3 fr4 fr5 fr6 t0 t1 ft0 ft1;obtain ⟨⟨t0, t1⟩, ft0, ft1⟩ := HP6.out.t.pair;obtain ⟨⟨r0, r1, r2, r3, r4, r5, r6⟩, fr0, fr1, fr2, fr3, fr4, fr5, fr6⟩ := HR6.out.bx.seven;unfold rdV
       try go_wp2_with fail
       refine hK.out _ _ ⟨t0, t1⟩ (fun hHeld => ?_);clear hK K
       try simp only [Act.put, layS]
       refine rd1 10 rfl (fun K hK => ?_);have hV := HR6.out.bx.put (rdL (twoX 7 y y2) a6 c6 k2) rfl;have hK' := HK6.out.put (c := rb) (fun b hb => hb.2) 0 (rdL (twoX 7 y y2) a6 c6 k2);have hP := HP6.out.putA (ab := rb) HR6.out.gt (rdL (twoX 7 y y2) a6 c6 k2);have hZ := putL_size rb (rdL (twoX 7 y y2) a6 c6 k2) 0 w6;have hl6 := HR6.out.lt;have hg6 := HR6.out.gt;simp only [rdL, putL, Nat.zero_add, Nat.reduceAdd] at hV hK' hP hZ;have HPN := Hd hP;have HRN : Hid (RdB w _ rb (twoX 7 y y2) a6 c6 k2) := Hd ⟨hV, hK', by rw [hZ]; exact hl6, hg6⟩;clear hV hK' hP hZ;go_simp;refine hK.out _ _ HPN.out.t.pair.1 (fun hHeld => ?_);clear hK K;refine wpAnyH_done (by kernel_rfl) ?_ _;go_wp2_with fail
       go_roundw
       case rel => exact ⟨twoX 7 y y2, a6, c6, k2, fq, HPN.out, HRN.out, HQ2.out, HLO.out.1, by omega⟩
       case measure =>
        have hl9 := HRN.out.left T.length;rw [hl9, HML.out];have := HLO.out;have := HKC.out;omega
      ·go_simp;refine (HOP.out _ (HTV.out.below (kbelow_dN (Below.refl _ _) _) HTV.out.1)).mono ?_;rintro e w5 ⟨a5, c5, rfl, hk5, hb⟩;have HB5 := Hd (Below.trans (kbelow_dN (Below.refl _ _) 1) hb);have HP5 := Hd (HPV.out.below HB5.out);have HR5 := Hd (HRV.out.below HB5.out);have HY5 := Hd (hk5.mono (Q := fun b => w.heap.size + 1 < b /\ b ≠ rb) (fun b hb _ => by have h1 := Nat.lt_of_lt_of_le HRV.out.lt hb; have h2 := HRV.out.gt; exact ⟨Nat.lt_trans h2 h1, by omega⟩));clear hb hk5 hHeld r0 r1 r2 r3 r4 r5 r6 fr0 fr1 fr2 fr3 fr4 fr5 fr6 t0 t1 ft0 ft1;obtain ⟨⟨t0, t1⟩, ft0, ft1⟩ := HP5.out.t.pair;obtain ⟨⟨r0, r1, r2, r3, r4, r5, r6⟩, fr0, fr1, fr2, fr3, fr4, fr5, fr6⟩ := HR5.out.bx.seven;unfold rdV
       try go_wp2_with fail
       refine hK.out _ _ ⟨t0, t1⟩ (fun hHeld => ?_);clear hK K
       try simp only [Act.put, layS]
       refine rd1 3 rfl (fun K hK => ?_);go_simp;refine hK.out _ _ ⟨t0, t1⟩ (fun hHeld => ?_);clear hK K
       try simp only [Act.put, layS]
       refine rd1 9 rfl (fun K hK => ?_);go_simp;refine (two_ref g n c z 7 y y2 ay a5 cy c5 kj k2 _ (fun b => w.heap.size + 1 < b /\ b ≠ rb) (fun b hb => by have h1 := Nat.lt_of_lt_of_le HR5.out.lt hb; have h2 := HR5.out.gt; exact ⟨Nat.lt_trans h2 h1, by omega⟩) HR5.out.ks HY5.out).mono ?_;rintro e w6 ⟨a6, c6, rfl, hk6, hb⟩;have HP6 := Hd (HP5.out.below hb);have HR6 := Hd (HR5.out.below hb);have HK6 := Hd hk6;clear hb hk6 hHeld r0 r1 r2 r3 r4 r5 r6 fr0 fr1 fr2 fr3 fr4 fr5 fr6 t0 t1 ft0 ft1;obtain ⟨⟨t0, t1⟩, ft0, ft1⟩ := HP6.out.t.pair;obtain ⟨⟨r0, r1, r2, r3, r4, r5, r6⟩, fr0, fr1, fr2, fr3, fr4, fr5, fr6⟩ := HR6.out.bx.seven;unfold rdV
       try go_wp2_with fail
       refine hK.out _ _ ⟨t0, t1⟩ (fun hHeld => ?_);clear hK K
       try simp only [Act.put, layS]
       refine rd1 10 rfl (fun K hK => ?_);have hV := HR6.out.bx.put (rdL (twoX 7 y y2) a6 c6 k2) rfl;have hK' := HK6.out.put (c := rb) (fun b hb => hb.2) 0 (rdL (twoX 7 y y2) a6 c6 k2);have hP := HP6.out.putA (ab := rb) HR6.out.gt (rdL (twoX 7 y y2) a6 c6 k2);have hZ := putL_size rb (rdL (twoX 7 y y2) a6 c6 k2) 0 w6;have hl6 := HR6.out.lt;have hg6 := HR6.out.gt;simp only [rdL, putL, Nat.zero_add, Nat.reduceAdd] at hV hK' hP hZ;have HPN := Hd hP;have HRN : Hid (RdB w _ rb (twoX 7 y y2) a6 c6 k2) := Hd ⟨hV, hK', by rw [hZ]; exact hl6, hg6⟩;clear hV hK' hP hZ;go_simp;refine hK.out _ _ HPN.out.t.pair.1 (fun hHeld => ?_);clear hK K;refine wpAnyH_done (by kernel_rfl) ?_ _;go_wp2_with fail
       go_roundw
       case rel => exact ⟨twoX 7 y y2, a6, c6, k2, fq, HPN.out, HRN.out, HQ2.out, HLO.out.1, by omega⟩
       case measure =>
        have hl9 := HRN.out.left T.length;rw [hl9, HML.out];have := HLO.out;have := HKC.out;omega
    ·rw [if_neg c1] at hq;have i1 := isR_no HRK.out c1;clear c1
     by_cases c1 : isT T kj [45] = true
     ·rw [if_pos c1] at hq;have i2 := isR_yes HRK.out HKJ.out c1 (by decide +kernel) (by decide);go_wp2_with fail
      refine (is_ref L g n c z kj ⟨#[43]⟩ _ (HT.out.below HPV.out.bel HT.out.1) HN.out).mono ?_;rintro e w' ⟨rfl, hb⟩;rw [i1];replace HPV := Hd (HPV.out.below hb);replace HRV := Hd (HRV.out.below hb);replace HSV := Hd (Nat.le_trans HSV.out hb.size);clear hb r0 r1 r2 r3 r4 r5 r6 fr0 fr1 fr2 fr3 fr4 fr5 fr6 t0 t1 ft0 ft1;obtain ⟨⟨t0, t1⟩, ft0, ft1⟩ := HPV.out.t.pair;obtain ⟨⟨r0, r1, r2, r3, r4, r5, r6⟩, fr0, fr1, fr2, fr3, fr4, fr5, fr6⟩ := HRV.out.bx.seven;go_wp2_with fail
      refine (is_ref L g n c z kj ⟨#[45]⟩ _ (HT.out.below HPV.out.bel HT.out.1) HN.out).mono ?_;rintro e w' ⟨rfl, hb⟩;rw [i2];replace HPV := Hd (HPV.out.below hb);replace HRV := Hd (HRV.out.below hb);replace HSV := Hd (Nat.le_trans HSV.out hb.size);clear hb r0 r1 r2 r3 r4 r5 r6 fr0 fr1 fr2 fr3 fr4 fr5 fr6 t0 t1 ft0 ft1;obtain ⟨⟨t0, t1⟩, ft0, ft1⟩ := HPV.out.t.pair;obtain ⟨⟨r0, r1, r2, r3, r4, r5, r6⟩, fr0, fr1, fr2, fr3, fr4, fr5, fr6⟩ := HRV.out.bx.seven;go_wp2_with fail
      refine (is_ref L g n c z kj ⟨#[45]⟩ _ (HT.out.below HPV.out.bel HT.out.1) HN.out).mono ?_;rintro e w' ⟨rfl, hb⟩;rw [i2];replace HPV := Hd (HPV.out.below hb);replace HRV := Hd (HRV.out.below hb);replace HSV := Hd (Nat.le_trans HSV.out hb.size);clear hb r0 r1 r2 r3 r4 r5 r6 fr0 fr1 fr2 fr3 fr4 fr5 fr6 t0 t1 ft0 ft1;obtain ⟨⟨t0, t1⟩, ft0, ft1⟩ := HPV.out.t.pair;obtain ⟨⟨r0, r1, r2, r3, r4, r5, r6⟩, fr0, fr1, fr2, fr3, fr4, fr5, fr6⟩ := HRV.out.bx.seven;have HKN := Hd (HRK.out.ok.text HKJ.out c1 (by simp));obtain ⟨⟨y2, k2⟩, h5, hq⟩ := Option.bind_eq_some_iff.1 hq;have hpr := prs_ok HRK.out.ok _ _ _ _ _ rfl HKN.out h5;have hlow := hpr.low;simp only [lowL] at hlow;have HOP := Hd (HP.out fq (by omega) (kj + 1) y2 k2 h5 HKN.out);have HQ2 := Hd hq;have HLO := Hd (And.intro hpr.lt hlow);obtain ⟨kc, hkc⟩ : ∃ kc, kc = kj + 1 := ⟨_, rfl⟩;have wk : IntKind.i64.wrap ((kj : Int) + 1) = (kc : Int) := by have := HRK.out.ok.long; have := HKJ.out; rw [IntWalk.i64_in _ (by omega)]; omega
      rw [<- hkc] at HOP HLO;have HKC := Hd hkc;clear h5 hq hpr hlow hkc c1;go_wp2_with fail
      have HTV := Hd (HT.out.below HPV.out.bel HT.out.1);refine wp_region_held_drew (S := fun w' => w'.cell? ⟨w.heap.size, 0, none⟩ = some (.slice (some ⟨g, 0, none⟩) n c) /\ w'.cell? ⟨w.heap.size, 1, none⟩ = some (.int .i64 z)) (by kernel_rfl) ⟨t0, t1⟩ (fun hHeld => ?_);refine tkH 0 (.agg #[.slice (some ⟨g, 0, none⟩) n c, .int .i64 z]) rfl (fun w' hSw => ?_) ?_
      ·((try dsimp only at hSw); go_simp; try with_reducible rfl)
      try simp only [Act.put, layS]
      refine tkH 1 (.int .i64 8) rfl (fun w' hSw => ?_) ?_
      ·((try dsimp only at hSw); go_simp; try with_reducible rfl)
      try simp only [Act.put, layS]
      refine tkH 2 (.agg #[.int .i64 8, .int .i64 0, .string ⟨#[]⟩, .slice none 0 0]) rfl (fun w' hSw => ?_) ?_
      ·((try dsimp only at hSw); go_simp; try with_reducible rfl)
      try simp only [Act.put, layS]
      refine tkH 4 (.agg #[.slice (some ⟨g, 0, none⟩) n c, .int .i64 z]) rfl (fun w' hSw => ?_) ?_
      ·((try dsimp only at hSw); go_simp; try with_reducible rfl)
      try simp only [Act.put, layS]
      refine tkH 5 (.pointer (some ⟨rb, 4, none⟩)) rfl (fun w' hSw => ?_) ?_
      ·((try dsimp only at hSw); go_simp; try with_reducible rfl)
      try simp only [Act.put, layS]
      refine rd2 3 6 rfl (fun K hK => ?_) rfl (fun K hK => ?_)
      ·go_simp;refine hK.out _ _ ⟨t0, t1⟩ (fun hHeld => ?_);clear hK K
       try simp only [Act.put, layS]
       refine rd1 6 rfl (fun K hK => ?_);go_simp;refine hK.out _ _ ⟨t0, t1⟩ (fun hHeld => ?_);clear hK K
       try simp only [Act.put, layS]
       refine tkH 7 (.int .i64 (kc : Int)) rfl (fun w' hSw => ?_) ?_
       ·((try dsimp only at hSw); go_simp; try with_reducible rfl)
       try simp only [Act.put, layS]
       refine rd1 8 rfl (fun K hK => ?_);go_simp;refine (HOP.out _ (HTV.out.below (kbelow_dN (Below.refl _ _) _) HTV.out.1)).mono ?_;rintro e w5 ⟨a5, c5, rfl, hk5, hb⟩;have HB5 := Hd (Below.trans (kbelow_dN (Below.refl _ _) 1) hb);have HP5 := Hd (HPV.out.below HB5.out);have HR5 := Hd (HRV.out.below HB5.out);have HY5 := Hd (hk5.mono (Q := fun b => w.heap.size + 1 < b /\ b ≠ rb) (fun b hb _ => by have h1 := Nat.lt_of_lt_of_le HRV.out.lt hb; have h2 := HRV.out.gt; exact ⟨Nat.lt_trans h2 h1, by omega⟩));clear hb hk5 hHeld r0 r1 r2 r3 r4 r5 r6 fr0 fr1 fr2 fr3 fr4 fr5 fr6 t0 t1 ft0 ft1;obtain ⟨⟨t0, t1⟩, ft0, ft1⟩ := HP5.out.t.pair;obtain ⟨⟨r0, r1, r2, r3, r4, r5, r6⟩, fr0, fr1, fr2, fr3, fr4, fr5, fr6⟩ := HR5.out.bx.seven;unfold rdV
       try go_wp2_with fail
       refine hK.out _ _ ⟨t0, t1⟩ (fun hHeld => ?_);clear hK K
       try simp only [Act.put, layS]
       refine rd1 9 rfl (fun K hK => ?_);go_simp;refine (two_ref g n c z 8 y y2 ay a5 cy c5 kj k2 _ (fun b => w.heap.size + 1 < b /\ b ≠ rb) (fun b hb => by have h1 := Nat.lt_of_lt_of_le HR5.out.lt hb; have h2 := HR5.out.gt; exact ⟨Nat.lt_trans h2 h1, by omega⟩) HR5.out.ks HY5.out).mono ?_;rintro e w6 ⟨a6, c6, rfl, hk6, hb⟩;have HP6 := Hd (HP5.out.below hb);have HR6 := Hd (HR5.out.below hb);have HK6 := Hd hk6;clear hb hk6 hHeld r0 r1 r2 r3 r4 r5 r6 fr0 fr1 fr2 fr3 fr4 fr5 fr6 t0 t1 ft0 ft1;obtain ⟨⟨t0, t1⟩, ft0, ft1⟩ := HP6.out.t.pair;obtain ⟨⟨r0, r1, r2, r3, r4, r5, r6⟩, fr0, fr1, fr2, fr3, fr4, fr5, fr6⟩ := HR6.out.bx.seven;unfold rdV
       try go_wp2_with fail
       refine hK.out _ _ ⟨t0, t1⟩ (fun hHeld => ?_);clear hK K
       try simp only [Act.put, layS]
       refine rd1 10 rfl (fun K hK => ?_);have hV := HR6.out.bx.put (rdL (twoX 8 y y2) a6 c6 k2) rfl;have hK' := HK6.out.put (c := rb) (fun b hb => hb.2) 0 (rdL (twoX 8 y y2) a6 c6 k2);have hP := HP6.out.putA (ab := rb) HR6.out.gt (rdL (twoX 8 y y2) a6 c6 k2);have hZ := putL_size rb (rdL (twoX 8 y y2) a6 c6 k2) 0 w6;have hl6 := HR6.out.lt;have hg6 := HR6.out.gt;simp only [rdL, putL, Nat.zero_add, Nat.reduceAdd] at hV hK' hP hZ;have HPN := Hd hP;have HRN : Hid (RdB w _ rb (twoX 8 y y2) a6 c6 k2) := Hd ⟨hV, hK', by rw [hZ]; exact hl6, hg6⟩;clear hV hK' hP hZ;go_simp;refine hK.out _ _ HPN.out.t.pair.1 (fun hHeld => ?_);clear hK K;refine wpAnyH_done (by kernel_rfl) ?_ _;go_wp2_with fail
       go_roundw
       case rel => exact ⟨twoX 8 y y2, a6, c6, k2, fq, HPN.out, HRN.out, HQ2.out, HLO.out.1, by omega⟩
       case measure =>
        have hl9 := HRN.out.left T.length;rw [hl9, HML.out];have := HLO.out;have := HKC.out;omega
      ·go_simp;refine hK.out _ _ ⟨t0, t1⟩ (fun hHeld => ?_);clear hK K
       try simp only [Act.put, layS]
       refine tkH 7 (.int .i64 (kc : Int)) rfl (fun w' hSw => ?_) ?_
       ·((try dsimp only at hSw); go_simp; try with_reducible rfl)
       try simp only [Act.put, layS]
       refine rd2 3 8 rfl (fun K hK => ?_) rfl (fun K hK => ?_)
       ·go_simp;refine hK.out _ _ ⟨t0, t1⟩ (fun hHeld => ?_);clear hK K
        try simp only [Act.put, layS]
        refine rd1 8 rfl (fun K hK => ?_);go_simp;refine (HOP.out _ (HTV.out.below (kbelow_dN (Below.refl _ _) _) HTV.out.1)).mono ?_;rintro e w5 ⟨a5, c5, rfl, hk5, hb⟩;have HB5 := Hd (Below.trans (kbelow_dN (Below.refl _ _) 1) hb);have HP5 := Hd (HPV.out.below HB5.out);have HR5 := Hd (HRV.out.below HB5.out);have HY5 := Hd (hk5.mono (Q := fun b => w.heap.size + 1 < b /\ b ≠ rb) (fun b hb _ => by have h1 := Nat.lt_of_lt_of_le HRV.out.lt hb; have h2 := HRV.out.gt; exact ⟨Nat.lt_trans h2 h1, by omega⟩));clear hb hk5 hHeld r0 r1 r2 r3 r4 r5 r6 fr0 fr1 fr2 fr3 fr4 fr5 fr6 t0 t1 ft0 ft1;obtain ⟨⟨t0, t1⟩, ft0, ft1⟩ := HP5.out.t.pair;obtain ⟨⟨r0, r1, r2, r3, r4, r5, r6⟩, fr0, fr1, fr2, fr3, fr4, fr5, fr6⟩ := HR5.out.bx.seven;unfold rdV
        try go_wp2_with fail
        refine hK.out _ _ ⟨t0, t1⟩ (fun hHeld => ?_);clear hK K
        try simp only [Act.put, layS]
        refine rd1 9 rfl (fun K hK => ?_);go_simp;refine (two_ref g n c z 8 y y2 ay a5 cy c5 kj k2 _ (fun b => w.heap.size + 1 < b /\ b ≠ rb) (fun b hb => by have h1 := Nat.lt_of_lt_of_le HR5.out.lt hb; have h2 := HR5.out.gt; exact ⟨Nat.lt_trans h2 h1, by omega⟩) HR5.out.ks HY5.out).mono ?_;rintro e w6 ⟨a6, c6, rfl, hk6, hb⟩;have HP6 := Hd (HP5.out.below hb);have HR6 := Hd (HR5.out.below hb);have HK6 := Hd hk6;clear hb hk6 hHeld r0 r1 r2 r3 r4 r5 r6 fr0 fr1 fr2 fr3 fr4 fr5 fr6 t0 t1 ft0 ft1;obtain ⟨⟨t0, t1⟩, ft0, ft1⟩ := HP6.out.t.pair;obtain ⟨⟨r0, r1, r2, r3, r4, r5, r6⟩, fr0, fr1, fr2, fr3, fr4, fr5, fr6⟩ := HR6.out.bx.seven;unfold rdV
        try go_wp2_with fail
        refine hK.out _ _ ⟨t0, t1⟩ (fun hHeld => ?_);clear hK K
        try simp only [Act.put, layS]
        refine rd1 10 rfl (fun K hK => ?_);have hV := HR6.out.bx.put (rdL (twoX 8 y y2) a6 c6 k2) rfl;have hK' := HK6.out.put (c := rb) (fun b hb => hb.2) 0 (rdL (twoX 8 y y2) a6 c6 k2);have hP := HP6.out.putA (ab := rb) HR6.out.gt (rdL (twoX 8 y y2) a6 c6 k2);have hZ := putL_size rb (rdL (twoX 8 y y2) a6 c6 k2) 0 w6;have hl6 := HR6.out.lt;have hg6 := HR6.out.gt;simp only [rdL, putL, Nat.zero_add, Nat.reduceAdd] at hV hK' hP hZ;have HPN := Hd hP;have HRN : Hid (RdB w _ rb (twoX 8 y y2) a6 c6 k2) := Hd ⟨hV, hK', by rw [hZ]; exact hl6, hg6⟩;clear hV hK' hP hZ;go_simp;refine hK.out _ _ HPN.out.t.pair.1 (fun hHeld => ?_);clear hK K;refine wpAnyH_done (by kernel_rfl) ?_ _;go_wp2_with fail
        go_roundw
        case rel => exact ⟨twoX 8 y y2, a6, c6, k2, fq, HPN.out, HRN.out, HQ2.out, HLO.out.1, by omega⟩
        case measure =>
         have hl9 := HRN.out.left T.length;rw [hl9, HML.out];have := HLO.out;have := HKC.out;omega
       ·go_simp;refine (HOP.out _ (HTV.out.below (kbelow_dN (Below.refl _ _) _) HTV.out.1)).mono ?_;rintro e w5 ⟨a5, c5, rfl, hk5, hb⟩;have HB5 := Hd (Below.trans (kbelow_dN (Below.refl _ _) 1) hb);have HP5 := Hd (HPV.out.below HB5.out);have HR5 := Hd (HRV.out.below HB5.out);have HY5 := Hd (hk5.mono (Q := fun b => w.heap.size + 1 < b /\ b ≠ rb) (fun b hb _ => by have h1 := Nat.lt_of_lt_of_le HRV.out.lt hb; have h2 := HRV.out.gt; exact ⟨Nat.lt_trans h2 h1, by omega⟩));clear hb hk5 hHeld r0 r1 r2 r3 r4 r5 r6 fr0 fr1 fr2 fr3 fr4 fr5 fr6 t0 t1 ft0 ft1;obtain ⟨⟨t0, t1⟩, ft0, ft1⟩ := HP5.out.t.pair;obtain ⟨⟨r0, r1, r2, r3, r4, r5, r6⟩, fr0, fr1, fr2, fr3, fr4, fr5, fr6⟩ := HR5.out.bx.seven;unfold rdV
        try go_wp2_with fail
        refine hK.out _ _ ⟨t0, t1⟩ (fun hHeld => ?_);clear hK K
        try simp only [Act.put, layS]
        refine rd1 3 rfl (fun K hK => ?_);go_simp;refine hK.out _ _ ⟨t0, t1⟩ (fun hHeld => ?_);clear hK K
        try simp only [Act.put, layS]
        refine rd1 9 rfl (fun K hK => ?_);go_simp;refine (two_ref g n c z 8 y y2 ay a5 cy c5 kj k2 _ (fun b => w.heap.size + 1 < b /\ b ≠ rb) (fun b hb => by have h1 := Nat.lt_of_lt_of_le HR5.out.lt hb; have h2 := HR5.out.gt; exact ⟨Nat.lt_trans h2 h1, by omega⟩) HR5.out.ks HY5.out).mono ?_;rintro e w6 ⟨a6, c6, rfl, hk6, hb⟩;have HP6 := Hd (HP5.out.below hb);have HR6 := Hd (HR5.out.below hb);have HK6 := Hd hk6;clear hb hk6 hHeld r0 r1 r2 r3 r4 r5 r6 fr0 fr1 fr2 fr3 fr4 fr5 fr6 t0 t1 ft0 ft1;obtain ⟨⟨t0, t1⟩, ft0, ft1⟩ := HP6.out.t.pair;obtain ⟨⟨r0, r1, r2, r3, r4, r5, r6⟩, fr0, fr1, fr2, fr3, fr4, fr5, fr6⟩ := HR6.out.bx.seven;unfold rdV
        try go_wp2_with fail
        refine hK.out _ _ ⟨t0, t1⟩ (fun hHeld => ?_);clear hK K
        try simp only [Act.put, layS]
        refine rd1 10 rfl (fun K hK => ?_);have hV := HR6.out.bx.put (rdL (twoX 8 y y2) a6 c6 k2) rfl;have hK' := HK6.out.put (c := rb) (fun b hb => hb.2) 0 (rdL (twoX 8 y y2) a6 c6 k2);have hP := HP6.out.putA (ab := rb) HR6.out.gt (rdL (twoX 8 y y2) a6 c6 k2);have hZ := putL_size rb (rdL (twoX 8 y y2) a6 c6 k2) 0 w6;have hl6 := HR6.out.lt;have hg6 := HR6.out.gt;simp only [rdL, putL, Nat.zero_add, Nat.reduceAdd] at hV hK' hP hZ;have HPN := Hd hP;have HRN : Hid (RdB w _ rb (twoX 8 y y2) a6 c6 k2) := Hd ⟨hV, hK', by rw [hZ]; exact hl6, hg6⟩;clear hV hK' hP hZ;go_simp;refine hK.out _ _ HPN.out.t.pair.1 (fun hHeld => ?_);clear hK K;refine wpAnyH_done (by kernel_rfl) ?_ _;go_wp2_with fail
        go_roundw
        case rel => exact ⟨twoX 8 y y2, a6, c6, k2, fq, HPN.out, HRN.out, HQ2.out, HLO.out.1, by omega⟩
        case measure =>
         have hl9 := HRN.out.left T.length;rw [hl9, HML.out];have := HLO.out;have := HKC.out;omega
     ·rw [if_neg c1] at hq;have i2 := isR_no HRK.out c1;clear c1;injection hq with hq
      injection hq with e1 e2
      subst e1 e2;go_wp2_with fail
      refine (is_ref L g n c z kj ⟨#[43]⟩ _ (HT.out.below HPV.out.bel HT.out.1) HN.out).mono ?_;rintro e w' ⟨rfl, hb⟩;rw [i1];replace HPV := Hd (HPV.out.below hb);replace HRV := Hd (HRV.out.below hb);replace HSV := Hd (Nat.le_trans HSV.out hb.size);clear hb r0 r1 r2 r3 r4 r5 r6 fr0 fr1 fr2 fr3 fr4 fr5 fr6 t0 t1 ft0 ft1;obtain ⟨⟨t0, t1⟩, ft0, ft1⟩ := HPV.out.t.pair;obtain ⟨⟨r0, r1, r2, r3, r4, r5, r6⟩, fr0, fr1, fr2, fr3, fr4, fr5, fr6⟩ := HRV.out.bx.seven;go_wp2_with fail
      refine (is_ref L g n c z kj ⟨#[45]⟩ _ (HT.out.below HPV.out.bel HT.out.1) HN.out).mono ?_;rintro e w' ⟨rfl, hb⟩;rw [i2];replace HPV := Hd (HPV.out.below hb);replace HRV := Hd (HRV.out.below hb);replace HSV := Hd (Nat.le_trans HSV.out hb.size);clear hb r0 r1 r2 r3 r4 r5 r6 fr0 fr1 fr2 fr3 fr4 fr5 fr6 t0 t1 ft0 ft1;obtain ⟨⟨t0, t1⟩, ft0, ft1⟩ := HPV.out.t.pair;obtain ⟨⟨r0, r1, r2, r3, r4, r5, r6⟩, fr0, fr1, fr2, fr3, fr4, fr5, fr6⟩ := HRV.out.bx.seven;obtain ⟨⟨o0, o1, o2, o3, o4, o5, o6⟩, fo0, fo1, fo2, fo3, fo4, fo5, fo6⟩ := HPV.out.o.seven;have hD := HPV.out.done cy kj (HRV.out.ks.mono fun b hb _ => hb.1);go_wp2_with fail
      obtain ⟨hV, hK, hE⟩ := hD;obtain ⟨⟨e0, e1, e2, e3, e4, e5, e6⟩, -⟩ := hV.seven;simp only [rdL, putL, Nat.zero_add, Nat.reduceAdd] at e0 e1 e2 e3 e4 e5 e6;refine bodyPost_ret (v := rdV y ay cy kj) ?_ rfl ⟨_, _, rfl, hK, hE⟩;simp [results, Tryz.results106, go_sem, e0, e1, e2, e3, e4, e5, e6, rdV]
theorem facT_is {T : List Tk} {k : Nat} {m : Int} (h : facT T k = some m) : kdT T k = 2 /\ (tkth T k).pt = false /\ nmT T k / 100 = m /\ 1 <= m /\ m <= 1000000 := by
 unfold facT at h
 split at h
 ·split at h
  ·cases h
  ·split at h
   ·cases h
   ·rename_i h1 h2 h3
    injection h with h
    refine ⟨h1, by simpa using h2, h, by omega, by omega⟩
 ·cases h
theorem product_ref {s0 : ByteArray} {L T : List Tk} {g n c : Nat} {z : Int} {f : Nat} (hRK : RkL s0 L T) (hn : L.length = n) (hA : RdF 176 T L g n c z .pa f) : RdF 146 T L g n c z .pr (f + 1) := by
 intro k x k' h hk w hT;rw [prs_pr] at h;obtain ⟨⟨y0, k0⟩, h1, h2⟩ := Option.bind_eq_some_iff.1 h;have HRK := Hd hRK;have HN := Hd hn;have HT := Hd hT;have HOP := Hd (hA k y0 k0 h1 hk);have HK0 := Hd (prs_ok hRK.ok _ _ _ _ _ rfl hk h1).lt;have HQ := Hd h2;have HP0 := Hd (SuB.made w g n c z 118 122);clear h h1 h2 hRK hn hA hT hk;unfold tksV
 go_enter Tryz.func146, Tryz.ntmps146
 go_wp2_with fail
 refine (HOP.out _ (HT.out.below HP0.out.bel HT.out.1)).mono ?_;rintro e w4 ⟨ay0, cy0, rfl, hk4, hb⟩;have HP4 := Hd (HP0.out.below hb);have HK4 := Hd (hk4.mono (Q := fun b => w.heap.size + 1 < b /\ b ≠ w4.heap.size) (fun b hb hB => ⟨by have := HP0.out.lt; omega, by omega⟩));have HPA := Hd (HP4.out.below (kbelow_box w4 (.cells #[.int .i64 y0.k, .int .i64 y0.n, .string y0.s, .slice ay0 y0.m cy0, .int .i64 k0, .int .i64 0, .int .i64 0] 122)));have HRA : Hid (RdB w (w4.alloc (.cells #[.int .i64 y0.k, .int .i64 y0.n, .string y0.s, .slice ay0 y0.m cy0, .int .i64 k0, .int .i64 0, .int .i64 0] 122)) w4.heap.size y0 ay0 cy0 k0) := Hd ⟨Bxs.made w4 (rdL y0 ay0 cy0 k0) _, HK4.out.below (kbelow_box _ _), by simp, HP4.out.lt⟩;clear hb hk4 HP4 HK4 HOP HP0;unfold rdV;go_wp2_with fail
 generalize (w4.alloc (.cells #[.int .i64 y0.k, .int .i64 y0.n, .string y0.s, .slice ay0 y0.m cy0, .int .i64 k0, .int .i64 0, .int .i64 0] 122)) = v4 at HPA HRA ⊢;generalize w4.heap.size = rb at HRA ⊢
 go_loopw [6] (fun _ wr => ∃ (y : Ex) (ay : Option Addr) (cy kj fq : Nat), SuB w wr g n c z /\ RdB w wr rb y ay cy kj /\ prs T fq (.pl y) kj = some (x, k') /\ kj < T.length /\ fq <= f) (fun _ wr => leftR wr rb T.length)
 case atStart => exact ⟨y0, ay0, cy0, k0, f, HPA.out, HRA.out, HQ.out, HK0.out, Nat.le_refl _⟩
 case round =>
  clear HPA HRA HQ HK0;obtain ⟨y, ay, cy, kj, fq, hp, hr, hq, hkj, hfq⟩ := hrel;have HPV := Hd hp;have HRV := Hd hr;have HSV := Hd (Nat.le_refl wr.heap.size);have HML := Hd (hr.left T.length);have HKJ := Hd hkj;clear hp hr hkj
  cases fq with
  | zero => cases hq
  | succ fq =>
    rw [prs_pl] at hq;obtain ⟨⟨t0, t1⟩, ft0, ft1⟩ := HPV.out.t.pair;obtain ⟨⟨r0, r1, r2, r3, r4, r5, r6⟩, fr0, fr1, fr2, fr3, fr4, fr5, fr6⟩ := HRV.out.bx.seven
    by_cases c1 : isT T kj [42] = true
    ·rw [if_pos c1] at hq;have i1 := isR_yes HRK.out HKJ.out c1 (by decide +kernel) (by decide);have i2 : isR L kj ⟨#[47]⟩ = false := isR_no (l := [47]) HRK.out (fun q => by rw [isT_eq] at c1 q; rw [c1] at q; exact absurd q (by decide));go_wp2_with fail
     refine (is_ref L g n c z kj ⟨#[42]⟩ _ (HT.out.below HPV.out.bel HT.out.1) HN.out).mono ?_;rintro e w' ⟨rfl, hb⟩;rw [i1];replace HPV := Hd (HPV.out.below hb);replace HRV := Hd (HRV.out.below hb);replace HSV := Hd (Nat.le_trans HSV.out hb.size);clear hb r0 r1 r2 r3 r4 r5 r6 fr0 fr1 fr2 fr3 fr4 fr5 fr6 t0 t1 ft0 ft1;obtain ⟨⟨t0, t1⟩, ft0, ft1⟩ := HPV.out.t.pair;obtain ⟨⟨r0, r1, r2, r3, r4, r5, r6⟩, fr0, fr1, fr2, fr3, fr4, fr5, fr6⟩ := HRV.out.bx.seven;go_wp2_with fail
     refine (is_ref L g n c z kj ⟨#[47]⟩ _ (HT.out.below HPV.out.bel HT.out.1) HN.out).mono ?_;rintro e w' ⟨rfl, hb⟩;rw [i2];replace HPV := Hd (HPV.out.below hb);replace HRV := Hd (HRV.out.below hb);replace HSV := Hd (Nat.le_trans HSV.out hb.size);clear hb r0 r1 r2 r3 r4 r5 r6 fr0 fr1 fr2 fr3 fr4 fr5 fr6 t0 t1 ft0 ft1;obtain ⟨⟨t0, t1⟩, ft0, ft1⟩ := HPV.out.t.pair;obtain ⟨⟨r0, r1, r2, r3, r4, r5, r6⟩, fr0, fr1, fr2, fr3, fr4, fr5, fr6⟩ := HRV.out.bx.seven;have HKN := Hd (HRK.out.ok.text HKJ.out c1 (by simp));obtain ⟨m, hm, hq⟩ := Option.bind_eq_some_iff.1 hq;obtain ⟨m1, m2, m3, m4, m5⟩ := facT_is hm;have hk1 : kj + 1 < L.length := by
      have := HRK.out.ok.kind HKN.out m1 (by omega);have := HRK.out.len;omega
     have HQ2 := Hd hq;obtain ⟨kc, hkc⟩ : ∃ kc, kc = kj + 1 := ⟨_, rfl⟩;obtain ⟨ke, hke⟩ : ∃ ke, ke = kj + 2 := ⟨_, rfl⟩;have wk : IntKind.i64.wrap ((kj : Int) + 1) = (kc : Int) := by have := HRK.out.ok.long; have := HKJ.out; rw [IntWalk.i64_in _ (by omega)]; omega
     have wk2 : IntKind.i64.wrap ((kc : Int) + 1) = (ke : Int) := by have := HRK.out.ok.long; have := HKJ.out; rw [IntWalk.i64_in _ (by omega)]; omega
     have HTK := Hd (HT.out.2 (kj + 1) hk1);have hnb := HRK.out.ok.num (kj + 1) HKN.out;unfold kdT at m1;unfold nmT at m3 hnb;rw [HRK.out.at_ hk1] at m1 m2 m3 hnb;have HNN : Hid ((tkth L (kj + 1)).num.tdiv 100 = m) := by unfold Hid; rw [<- m3]; exact Int.tdiv_eq_ediv_of_nonneg hnb.1
     rw [<- hke] at HQ2;rw [<- hkc] at HTK HNN hk1;obtain ⟨tkk, htkk⟩ : ∃ t, tkth L kc = t := ⟨_, rfl⟩;rw [<- hkc, htkk] at m1 m2 hnb;rw [htkk] at HTK HNN;obtain ⟨tk0, tk1, tk2, tk3, tk4⟩ := tkk
     dsimp only at m1 m2 HNN hnb
     subst m1 m2;have HKC := Hd (And.intro hkc hke);have HME := Hd (And.intro m4 m5);have HKE : Hid (ke < T.length) := by have := HRK.out.len; unfold Hid; omega
     have hkn : (kc : Int) < (n : Int) := by have := HN.out; omega
     have hkn' : ¬ (n : Int) <= (kc : Int) := by omega
     have hd1 : ¬ m < (1 : Int) := by omega
     have hd2 : ¬ (1000000 : Int) < m := by omega
     have hd1' : decide (m < (1 : Int)) = false := dEf hd1;have hd2' : decide ((1000000 : Int) < m) = false := dEf hd2;have hdv := HNN.out;have hwm : IntKind.i64.wrap m = m := IntWalk.i64_in _ (by omega);obtain ⟨v0, v1, v2, v3, v4⟩ := HTK.out.below HPV.out.bel HT.out.1
     dsimp only at v0 v1 v2 v3 v4
     clear hm hq hkc hke c1 hk1 hnb m3 m4 m5 htkk hd1 hd2;have hrbl := HRV.out.lt;have hrbg := HRV.out.gt;have hwl := HPV.out.lt;go_wp2_with fail
     have hV := HRV.out.bx.put (rdL (oneX 9 m noT y) (some ⟨w'.heap.size, 0, none⟩) 1 ke) rfl;have hK' := HRV.out.ks.put (c := rb) (fun b hb => hb.2) 0 (rdL (oneX 9 m noT y) (some ⟨w'.heap.size, 0, none⟩) 1 ke);have hP := HPV.out.putA (ab := rb) hrbg (rdL (oneX 9 m noT y) (some ⟨w'.heap.size, 0, none⟩) 1 ke);have hZ := putL_size rb (rdL (oneX 9 m noT y) (some ⟨w'.heap.size, 0, none⟩) 1 ke) 0 w';simp only [rdL, putL, Nat.zero_add, Nat.reduceAdd, oneX, noT, Ex.k, Ex.n, Ex.s, Ex.m] at hV hK' hP hZ;generalize (((((((w'.setCell ⟨rb, 0, none⟩ _).setCell _ _).setCell _ _).setCell _ _).setCell _ _).setCell _ _).setCell _ _) = V at hV hK' hP hZ ⊢;have hb2 := kbelow_box V (.cells #[.int .i64 y.k, .int .i64 y.n, .string y.s, .slice ay y.m cy] 50);have HPN := Hd (hP.below hb2)
     have HRN : Hid (RdB w (V.alloc (.cells #[.int .i64 y.k, .int .i64 y.n, .string y.s, .slice ay y.m cy] 50)) rb (oneX 9 m noT y) (some ⟨w'.heap.size, 0, none⟩) 1 ke) :=
      Hd ⟨hV.below hb2 (by omega), KidsP.one (ce := cy) 50 9 m noT hK' hZ.symm (by rw [hZ]; exact ⟨by omega, by omega⟩) (by unfold noT maxLen; exact Nat.zero_le _), by simp; omega, hrbg⟩
     clear hV hK' hP hZ hb2;go_roundw
     case rel => exact ⟨oneX 9 m noT y, _, 1, ke, fq, HPN.out, HRN.out, HQ2.out, HKE.out, by omega⟩
     case measure =>
      have hl9 := HRN.out.left T.length;rw [hl9, HML.out];have := HKE.out;have := HKC.out;omega
    ·rw [if_neg c1] at hq;have i1 := isR_no HRK.out c1;clear c1
     by_cases c1 : isT T kj [47] = true
     ·rw [if_pos c1] at hq;have i2 := isR_yes HRK.out HKJ.out c1 (by decide +kernel) (by decide);go_wp2_with fail
      refine (is_ref L g n c z kj ⟨#[42]⟩ _ (HT.out.below HPV.out.bel HT.out.1) HN.out).mono ?_;rintro e w' ⟨rfl, hb⟩;rw [i1];replace HPV := Hd (HPV.out.below hb);replace HRV := Hd (HRV.out.below hb);replace HSV := Hd (Nat.le_trans HSV.out hb.size);clear hb r0 r1 r2 r3 r4 r5 r6 fr0 fr1 fr2 fr3 fr4 fr5 fr6 t0 t1 ft0 ft1;obtain ⟨⟨t0, t1⟩, ft0, ft1⟩ := HPV.out.t.pair;obtain ⟨⟨r0, r1, r2, r3, r4, r5, r6⟩, fr0, fr1, fr2, fr3, fr4, fr5, fr6⟩ := HRV.out.bx.seven;go_wp2_with fail
      refine (is_ref L g n c z kj ⟨#[47]⟩ _ (HT.out.below HPV.out.bel HT.out.1) HN.out).mono ?_;rintro e w' ⟨rfl, hb⟩;rw [i2];replace HPV := Hd (HPV.out.below hb);replace HRV := Hd (HRV.out.below hb);replace HSV := Hd (Nat.le_trans HSV.out hb.size);clear hb r0 r1 r2 r3 r4 r5 r6 fr0 fr1 fr2 fr3 fr4 fr5 fr6 t0 t1 ft0 ft1;obtain ⟨⟨t0, t1⟩, ft0, ft1⟩ := HPV.out.t.pair;obtain ⟨⟨r0, r1, r2, r3, r4, r5, r6⟩, fr0, fr1, fr2, fr3, fr4, fr5, fr6⟩ := HRV.out.bx.seven;go_wp2_with fail
      refine (is_ref L g n c z kj ⟨#[47]⟩ _ (HT.out.below HPV.out.bel HT.out.1) HN.out).mono ?_;rintro e w' ⟨rfl, hb⟩;rw [i2];replace HPV := Hd (HPV.out.below hb);replace HRV := Hd (HRV.out.below hb);replace HSV := Hd (Nat.le_trans HSV.out hb.size);clear hb r0 r1 r2 r3 r4 r5 r6 fr0 fr1 fr2 fr3 fr4 fr5 fr6 t0 t1 ft0 ft1;obtain ⟨⟨t0, t1⟩, ft0, ft1⟩ := HPV.out.t.pair;obtain ⟨⟨r0, r1, r2, r3, r4, r5, r6⟩, fr0, fr1, fr2, fr3, fr4, fr5, fr6⟩ := HRV.out.bx.seven;have HKN := Hd (HRK.out.ok.text HKJ.out c1 (by simp));obtain ⟨m, hm, hq⟩ := Option.bind_eq_some_iff.1 hq;obtain ⟨m1, m2, m3, m4, m5⟩ := facT_is hm;have hk1 : kj + 1 < L.length := by
       have := HRK.out.ok.kind HKN.out m1 (by omega);have := HRK.out.len;omega
      have HQ2 := Hd hq;obtain ⟨kc, hkc⟩ : ∃ kc, kc = kj + 1 := ⟨_, rfl⟩;obtain ⟨ke, hke⟩ : ∃ ke, ke = kj + 2 := ⟨_, rfl⟩;have wk : IntKind.i64.wrap ((kj : Int) + 1) = (kc : Int) := by have := HRK.out.ok.long; have := HKJ.out; rw [IntWalk.i64_in _ (by omega)]; omega
      have wk2 : IntKind.i64.wrap ((kc : Int) + 1) = (ke : Int) := by have := HRK.out.ok.long; have := HKJ.out; rw [IntWalk.i64_in _ (by omega)]; omega
      have HTK := Hd (HT.out.2 (kj + 1) hk1);have hnb := HRK.out.ok.num (kj + 1) HKN.out;unfold kdT at m1;unfold nmT at m3 hnb;rw [HRK.out.at_ hk1] at m1 m2 m3 hnb;have HNN : Hid ((tkth L (kj + 1)).num.tdiv 100 = m) := by unfold Hid; rw [<- m3]; exact Int.tdiv_eq_ediv_of_nonneg hnb.1
      rw [<- hke] at HQ2;rw [<- hkc] at HTK HNN hk1;obtain ⟨tkk, htkk⟩ : ∃ t, tkth L kc = t := ⟨_, rfl⟩;rw [<- hkc, htkk] at m1 m2 hnb;rw [htkk] at HTK HNN;obtain ⟨tk0, tk1, tk2, tk3, tk4⟩ := tkk
      dsimp only at m1 m2 HNN hnb
      subst m1 m2;have HKC := Hd (And.intro hkc hke);have HME := Hd (And.intro m4 m5);have HKE : Hid (ke < T.length) := by have := HRK.out.len; unfold Hid; omega
      have hkn : (kc : Int) < (n : Int) := by have := HN.out; omega
      have hkn' : ¬ (n : Int) <= (kc : Int) := by omega
      have hd1 : ¬ m < (1 : Int) := by omega
      have hd2 : ¬ (1000000 : Int) < m := by omega
      have hd1' : decide (m < (1 : Int)) = false := dEf hd1;have hd2' : decide ((1000000 : Int) < m) = false := dEf hd2;have hdv := HNN.out;have hwm : IntKind.i64.wrap m = m := IntWalk.i64_in _ (by omega);obtain ⟨v0, v1, v2, v3, v4⟩ := HTK.out.below HPV.out.bel HT.out.1
      dsimp only at v0 v1 v2 v3 v4
      clear hm hq hkc hke c1 hk1 hnb m3 m4 m5 htkk hd1 hd2;have hrbl := HRV.out.lt;have hrbg := HRV.out.gt;have hwl := HPV.out.lt;go_wp2_with fail
      have hV := HRV.out.bx.put (rdL (oneX 10 m noT y) (some ⟨w'.heap.size, 0, none⟩) 1 ke) rfl;have hK' := HRV.out.ks.put (c := rb) (fun b hb => hb.2) 0 (rdL (oneX 10 m noT y) (some ⟨w'.heap.size, 0, none⟩) 1 ke);have hP := HPV.out.putA (ab := rb) hrbg (rdL (oneX 10 m noT y) (some ⟨w'.heap.size, 0, none⟩) 1 ke);have hZ := putL_size rb (rdL (oneX 10 m noT y) (some ⟨w'.heap.size, 0, none⟩) 1 ke) 0 w';simp only [rdL, putL, Nat.zero_add, Nat.reduceAdd, oneX, noT, Ex.k, Ex.n, Ex.s, Ex.m] at hV hK' hP hZ;generalize (((((((w'.setCell ⟨rb, 0, none⟩ _).setCell _ _).setCell _ _).setCell _ _).setCell _ _).setCell _ _).setCell _ _) = V at hV hK' hP hZ ⊢;have hb2 := kbelow_box V (.cells #[.int .i64 y.k, .int .i64 y.n, .string y.s, .slice ay y.m cy] 50);have HPN := Hd (hP.below hb2)
      have HRN : Hid (RdB w (V.alloc (.cells #[.int .i64 y.k, .int .i64 y.n, .string y.s, .slice ay y.m cy] 50)) rb (oneX 10 m noT y) (some ⟨w'.heap.size, 0, none⟩) 1 ke) :=
       Hd ⟨hV.below hb2 (by omega), KidsP.one (ce := cy) 50 10 m noT hK' hZ.symm (by rw [hZ]; exact ⟨by omega, by omega⟩) (by unfold noT maxLen; exact Nat.zero_le _), by simp; omega, hrbg⟩
      clear hV hK' hP hZ hb2;go_roundw
      case rel => exact ⟨oneX 10 m noT y, _, 1, ke, fq, HPN.out, HRN.out, HQ2.out, HKE.out, by omega⟩
      case measure =>
       have hl9 := HRN.out.left T.length;rw [hl9, HML.out];have := HKE.out;have := HKC.out;omega
     ·rw [if_neg c1] at hq;have i2 := isR_no HRK.out c1;clear c1;injection hq with hq
      injection hq with e1 e2
      subst e1 e2;go_wp2_with fail
      refine (is_ref L g n c z kj ⟨#[42]⟩ _ (HT.out.below HPV.out.bel HT.out.1) HN.out).mono ?_;rintro e w' ⟨rfl, hb⟩;rw [i1];replace HPV := Hd (HPV.out.below hb);replace HRV := Hd (HRV.out.below hb);replace HSV := Hd (Nat.le_trans HSV.out hb.size);clear hb r0 r1 r2 r3 r4 r5 r6 fr0 fr1 fr2 fr3 fr4 fr5 fr6 t0 t1 ft0 ft1;obtain ⟨⟨t0, t1⟩, ft0, ft1⟩ := HPV.out.t.pair;obtain ⟨⟨r0, r1, r2, r3, r4, r5, r6⟩, fr0, fr1, fr2, fr3, fr4, fr5, fr6⟩ := HRV.out.bx.seven;go_wp2_with fail
      refine (is_ref L g n c z kj ⟨#[47]⟩ _ (HT.out.below HPV.out.bel HT.out.1) HN.out).mono ?_;rintro e w' ⟨rfl, hb⟩;rw [i2];replace HPV := Hd (HPV.out.below hb);replace HRV := Hd (HRV.out.below hb);replace HSV := Hd (Nat.le_trans HSV.out hb.size);clear hb r0 r1 r2 r3 r4 r5 r6 fr0 fr1 fr2 fr3 fr4 fr5 fr6 t0 t1 ft0 ft1;obtain ⟨⟨t0, t1⟩, ft0, ft1⟩ := HPV.out.t.pair;obtain ⟨⟨r0, r1, r2, r3, r4, r5, r6⟩, fr0, fr1, fr2, fr3, fr4, fr5, fr6⟩ := HRV.out.bx.seven;obtain ⟨⟨o0, o1, o2, o3, o4, o5, o6⟩, fo0, fo1, fo2, fo3, fo4, fo5, fo6⟩ := HPV.out.o.seven;have hD := HPV.out.done cy kj (HRV.out.ks.mono fun b hb _ => hb.1);go_wp2_with fail
      obtain ⟨hV, hK, hE⟩ := hD;obtain ⟨⟨e0, e1, e2, e3, e4, e5, e6⟩, -⟩ := hV.seven;simp only [rdL, putL, Nat.zero_add, Nat.reduceAdd] at e0 e1 e2 e3 e4 e5 e6;refine bodyPost_ret (v := rdV y ay cy kj) ?_ rfl ⟨_, _, rfl, hK, hE⟩;simp [results, Tryz.results146, go_sem, e0, e1, e2, e3, e4, e5, e6, rdV]
structure ExC where
 x : Ex
 a : Option Addr
 c : Nat
def cellsE : List ExC -> List Value
 | [] => []
 | r :: l => exL r.x r.a r.c ++ cellsE l
def ecth (l : List ExC) (j : Nat) : ExC := l.getD j ⟨.no, none, 0⟩
theorem cellsE_length : ∀ l : List ExC, (cellsE l).length = l.length * 4
 | [] => rfl
 | r :: l => by
   rw [cellsE, List.length_append, cellsE_length l, List.length_cons, exL_len];omega
theorem cellsE_append : ∀ l m : List ExC, cellsE (l ++ m) = cellsE l ++ cellsE m
 | [], _ => rfl
 | r :: l, m => by rw [List.cons_append, cellsE, cellsE, cellsE_append l m, List.append_assoc]
theorem cellsE_get : ∀ (l : List ExC) (k c : Nat), k < l.length -> c < 4 -> (cellsE l)[k * 4 + c]? = (exL (ecth l k).x (ecth l k).a (ecth l k).c)[c]?
 | [], k, c, hk, _ => absurd hk (by simp)
 | r :: l, 0, c, _, hc => by
   rw [cellsE, List.getElem?_append_left (by rw [exL_len]; omega), Nat.zero_mul, Nat.zero_add];rfl
 | r :: l, k + 1, c, hk, hc => by
   rw [cellsE, List.getElem?_append_right (by rw [exL_len]; omega), exL_len, show (k + 1) * 4 + c - 4 = k * 4 + c by omega, cellsE_get l k c (by simpa using hk) hc];rfl
theorem cellsE_one : ∀ (l : List ExC) (u : Value), u ∈ cellsE l -> u.oneCell' = true
 | [], u, h => by simp [cellsE] at h
 | r :: l, u, h => by
   rw [cellsE, List.mem_append] at h
   rcases h with h | h
   ·simp only [exL, List.mem_cons, List.not_mem_nil, or_false] at h
    rcases h with rfl | rfl | rfl | rfl <;> rfl
   ·exact cellsE_one l u h
theorem info_ex : (Tryz.prog.info? 50).map (fun i => (i.zero, i.size, i.bytes)) = some (some (.agg #[.int .i64 0, .int .i64 0, .string ⟨#[]⟩, .slice none 0 0]), 4, 56) := by kernel_rfl
def GrowE (w : World) (B : Nat) (v : Value) (l : List ExC) : Prop := w.ownsRow B 50 4 v l.length (cellsE l)
theorem GrowE.nil (w : World) (B : Nat) : GrowE w B (.slice none 0 0) [] := World.ownsRow_nil _ _ _ _
theorem GrowE.alloc {w : World} {B : Nat} {v : Value} {l : List ExC} (h : GrowE w B v l) (o : Obj) : GrowE (w.alloc o) B v l := World.ownsRow.alloc h o
theorem GrowE.lt {w : World} {B : Nat} {v : Value} {l : List ExC} (h : GrowE w B v l) : ∀ k, v.ownBlock = some k -> B <= k /\ k < w.heap.size := World.ownsRow.lt h
theorem GrowE.put {w : World} {B : Nat} {v : Value} {l : List ExC} (h : GrowE w B v l) {a : Addr} (ha : a.block < B) (u : Value) : GrowE (w.setCell a u) B v l := ownsRow_setCell_below h ha u
theorem GrowE.kept {w w' : World} {B : Nat} {v : Value} {l : List ExC} {row : Option Nat} (h : GrowE w B v l) (hg : w.grownBy w' row) (hr : ∀ r, row = some r -> r < B) : GrowE w' B v l := by
 refine World.ownsRow.kept h hg ?_
 cases hv : v.ownBlock with
 | none => exact .inl rfl
 | some k =>
   refine .inr (fun e => ?_);have := hr k e.symm;have := (h.lt k hv).1;omega
theorem wpList_app_ex {ops : Array Oper} {rest : List Oper} {o : Oper} {a : Act} {Q : Exit -> Act -> World -> Prop} (w : World) (hgd : o.guard = none) (s x : Operand)
 (ho : o.op = .call { callee := .builtin .append, args := #[s, x], argTypes := #[48, 48] })
 (B : Nat) (v : Value) (l : List ExC) (hs : a.eval s = v) (hown : GrowE w B v l) (b c : Nat) (r : ExC) (hx : a.eval x = .slice (some ⟨b, 0, none⟩) 1 c) (h0 : Bxs w b (exL r.x r.a r.c))
 (hb : l.length <= 1000) (hB : B <= w.heap.size)
 (h : ∀ v' w', GrowE w' B v' (l ++ [r]) -> w.grownBy w' v.ownBlock -> (v'.ownBlock = v.ownBlock \/ v'.ownBlock = some w.heap.size) -> wpList Tryz.prog ops Q rest (a.put o.dst v') w') :
 wpList Tryz.prog ops Q (o :: rest) a w := by
 obtain ⟨i0, hi, hz0, hz1, hz2⟩ := info_parts info_ex;have hnews : ∀ j u, (cellsE [r])[j]? = some u -> w.cell? ((⟨b, 0, none⟩ : Addr).add j) = some u := by
  intro j u hu;rw [Addr.add_lit, Nat.zero_add];have e : cellsE [r] = exL r.x r.a r.c := by simp [cellsE]
  rw [e] at hu;exact (h0 j u hu).1
 obtain ⟨v', w', hr, h2, h3, _, h5⟩ := run_append_own_at (P := Tryz.prog) w B 48 o.type 50 i0 _ 4 56 Tryz.underlying48 hi hz0 hz1 hz2 rfl (by decide) v l.length (cellsE l) hown ⟨b, 0, none⟩ 1 c (cellsE [r]) (by rw [cellsE_length]; rfl) hnews (cellsE_one [r]) (by unfold maxLen; omega) (by omega) hB;refine wpList_plain hgd fun _ hK => ?_
 unfold Oper.wp execOp;simp only [ho, resolve, invoke, builtin, Sem.run_bind, Sem.run_pure, Result.andThen_ok, List.map_toArray, List.map_cons, List.map_nil, hs, hx, hr];refine hK _ _ (h v' w' ?_ h3 h5);unfold GrowE;rw [List.length_append, cellsE_append];exact h2
theorem ecth_lt {L M : List ExC} {j : Nat} (h : j < L.length) : ecth (L ++ M) j = ecth L j := by
 unfold ecth;rw [List.getD_eq_getElem?_getD, List.getD_eq_getElem?_getD, List.getElem?_append_left h]
theorem ecth_at {L : List ExC} {r : ExC} : ecth (L ++ [r]) L.length = r := by
 unfold ecth;rw [List.getD_eq_getElem?_getD, List.getElem?_append_right (Nat.le_refl _)];simp
def ExP (lo rb : Nat) (v : Value) : Nat -> Prop := fun b => lo < b /\ b ≠ rb /\ some b ≠ v.ownBlock
theorem ex_more {w3 w4 : World} {o : Obj} {lo rb : Nat} {v v' : Value} {L : List ExC} {r : ExC} (h : ∀ j, j < L.length -> KidsP w3 (ExP lo rb v) (ecth L j).x (ecth L j).a) (hr : KidsP w3 (ExP lo rb v) r.x r.a)
 (hgr : (w3.alloc o).grownBy w4 v.ownBlock) (hv : v'.ownBlock = v.ownBlock \/ v'.ownBlock = some (w3.alloc o).heap.size) :
 ∀ j, j < (L ++ [r]).length -> KidsP w4 (ExP lo rb v') (ecth (L ++ [r]) j).x (ecth (L ++ [r]) j).a := by
 have hsa : (w3.alloc o).heap.size = w3.heap.size + 1 := by simp
 have hs4 : w3.heap.size <= w4.heap.size := by have := hgr.size; omega
 have kid : ∀ {x : Ex} {a : Option Addr}, KidsP w3 (ExP lo rb v) x a -> KidsP w4 (ExP lo rb v') x a := fun hx => hx.to (fun b hb hB => ⟨(hgr.block b (by omega) hb.2.2).trans ((kbelow_box w3 o).block b hB), hb.1, hb.2.1, fun e => by
  rcases hv with hv | hv
  ·rw [hv] at e; exact hb.2.2 e
  ·rw [hv, hsa] at e;injection e with e
   omega⟩) hs4
 intro j hj
 by_cases e : j < L.length
 ·rw [ecth_lt e]; exact kid (h j e)
 ·have hj' : j = L.length := by simp at hj; omega
  subst hj';rw [ecth_at]; exact kid hr
theorem GrowE.four {w : World} {B lo rb : Nat} {v : Value} {L : List ExC} {a b c d : Ex} (n : Int) (h : GrowE w B v L) (hk : ∀ j, j < L.length -> KidsP w (ExP lo rb v) (ecth L j).x (ecth L j).a) (hL : L.map ExC.x = [a, b, c, d]) (hB : lo < B) :
 ∃ g cap, v = .slice (some ⟨g, 0, none⟩) 4 cap /\ KidsP w (fun b => lo < b) (fourX n a b c d) (some ⟨g, 0, none⟩) := by
 match L, hL with
 | [r0, r1, r2, r3], hL =>
   injection hL with e0 hL
   injection hL with e1 hL
   injection hL with e2 hL
   injection hL with e3 hL
   subst e0 e1 e2 e3;have hh := h
   rcases h.2 with ⟨_, h2⟩ | ⟨g, cap, cur, h1, h2, h3, _⟩
   ·cases h2
   ·have hown : v.ownBlock = some g := by rw [h1]; rfl
    have hg := GrowE.lt hh g hown;have kids : ∀ j, j < 4 -> XCells w g (j * 4) (ecth [r0, r1, r2, r3] j).x (ecth [r0, r1, r2, r3] j).a (ecth [r0, r1, r2, r3] j).c /\ KidsP w (fun b => lo < b) (ecth [r0, r1, r2, r3] j).x (ecth [r0, r1, r2, r3] j).a := fun j hj => by
     refine ⟨?_, (hk j hj).mono fun b hb _ => hb.1⟩;have key : ∀ c, c < 4 -> ∀ u, (exL (ecth [r0, r1, r2, r3] j).x (ecth [r0, r1, r2, r3] j).a (ecth [r0, r1, r2, r3] j).c)[c]? = some u -> w.cell? ⟨g, j * 4 + c, none⟩ = some u := fun c hc u hu => by
      have := World.ownsRow.cells hh (g := g) hown (j * 4 + c) u ((cellsE_get [r0, r1, r2, r3] j c hj hc).trans hu);rw [Addr.add_lit, Nat.zero_add] at this;exact this
     exact ⟨key 0 (by omega) _ rfl, key 1 (by omega) _ rfl, key 2 (by omega) _ rfl, key 3 (by omega) _ rfl⟩
    refine ⟨g, cap, h1, by unfold maxLen noT; exact Nat.zero_le _, by unfold maxLen; omega, .inr ⟨g, rfl, by omega, ⟨hg.2, fun i => by simp [World.frozen?, h3]⟩, fun j hj => ?_⟩⟩
    rcases (show j = 0 \/ j = 1 \/ j = 2 \/ j = 3 by omega) with rfl | rfl | rfl | rfl
    ·exact ⟨_, _, kids 0 (by omega)⟩
    ·exact ⟨_, _, kids 1 (by omega)⟩
    ·exact ⟨_, _, kids 2 (by omega)⟩
    ·exact ⟨_, _, kids 3 (by omega)⟩
structure ExB (w X : World) (g n c : Nat) (z : Int) (rb : Nat) (y : Ex) (ay : Option Addr) (cy kj : Nat) (M : List ExC) (v : Value) : Prop where
 su : SuB w X g n c z
 bx : Bxs X rb (rdL y ay cy kj)
 ks : KidsP X (ExP (w.heap.size + 1) rb v) y ay
 gr : GrowE X (rb + 1) v M
 kd : ∀ j, j < M.length -> KidsP X (ExP (w.heap.size + 1) rb v) (ecth M j).x (ecth M j).a
 lt : rb < X.heap.size
 gt : w.heap.size + 1 < rb
theorem GrowE.below {w w' : World} {B : Nat} {v : Value} {l : List ExC} (h : GrowE w B v l) (hb : Below w.heap.size w w') : GrowE w' B v l :=
 h.kept (row := none) ⟨hb.os, hb.tape, hb.output, hb.size, fun k hk _ => hb.block k hk⟩ fun r e => by cases e
theorem ExB.below {w X X' : World} {g n c : Nat} {z : Int} {rb : Nat} {y : Ex} {ay : Option Addr} {cy kj : Nat} {M : List ExC} {v : Value} (h : ExB w X g n c z rb y ay cy kj M v) (hb : Below X.heap.size X X') : ExB w X' g n c z rb y ay cy kj M v :=
 ⟨h.su.below hb, h.bx.below hb h.lt, h.ks.below hb, h.gr.below hb, fun j hj => (h.kd j hj).below hb, Nat.lt_of_lt_of_le h.lt hb.size, h.gt⟩
theorem ExB.put {w X : World} {g n c : Nat} {z : Int} {rb : Nat} {y : Ex} {ay : Option Addr} {cy kj : Nat} {M : List ExC} {v : Value} (h : ExB w X g n c z rb y ay cy kj M v) {y' : Ex} {ay' : Option Addr} (cy' kj' : Nat) (hk : KidsP X (ExP (w.heap.size + 1) rb v) y' ay') : ExB w (putL X rb 0 (rdL y' ay' cy' kj')) g n c z rb y' ay' cy' kj' M v :=
 ⟨h.su.putA h.gt _, h.bx.put _ rfl, hk.put (fun b hb => hb.2.1) 0 _, h.gr.kept (row := some rb) ⟨(putL_rest rb _ 0 X).1, (putL_rest rb _ 0 X).2.1, (putL_rest rb _ 0 X).2.2, by rw [putL_size]; exact Nat.le_refl _, fun b hb hn => putL_block rb (fun e => hn (by rw [e])) _ 0 X⟩ fun r e => by injection e with e; omega, fun j hj => (h.kd j hj).put (fun b hb => hb.2.1) 0 _, by rw [putL_size]; exact h.lt, h.gt⟩
theorem ExB.app {w X w4 : World} {g n c : Nat} {z : Int} {rb : Nat} {y : Ex} {ay : Option Addr} {cy kj : Nat} {M : List ExC} {v v' : Value} {o : Obj} (h : ExB w X g n c z rb y ay cy kj M v) (hg : GrowE w4 (rb + 1) v' (M ++ [⟨y, ay, cy⟩])) (hgr : (X.alloc o).grownBy w4 v.ownBlock) (hv : v'.ownBlock = v.ownBlock \/ v'.ownBlock = some (X.alloc o).heap.size) : ExB w w4 g n c z rb y ay cy kj (M ++ [⟨y, ay, cy⟩]) v' := by
 have hm := ex_more h.kd (r := ⟨y, ay, cy⟩) h.ks hgr hv;have hgt := h.gt;have hlt := h.lt;have hs := h.su.lt;have hsz : X.heap.size <= w4.heap.size := by have := hgr.size; simp at this; omega
 have hblk : ∀ b, b <= rb -> w4.heap[b]? = X.heap[b]? := fun b hb => (hgr.block b (by simp; omega) fun e => by have := (h.gr.lt b e.symm).1; omega).trans ((kbelow_box X o).block b (by omega))
 have hbel : Below w.heap.size w w4 := h.su.bel.trans ⟨hgr.os, hgr.tape, hgr.output, hsz, fun b hb => hblk b (by omega)⟩;refine ⟨⟨hbel, h.su.t.to (hblk _ (by omega)), h.su.o.to (hblk _ (by omega)), Nat.lt_of_lt_of_le hs hsz⟩, h.bx.to (hblk _ (Nat.le_refl _)), ?_, hg, hm, Nat.lt_of_lt_of_le hlt hsz, hgt⟩;have := hm M.length (by simp);rw [ecth_at] at this;exact this
theorem tstT_is {T : List Tk} {k : Nat} {t : Int} (h : tstT T k = some t) : kdT T k = 3 /\ ((t = 1 /\ isT T k [60] = true) \/ (t = 2 /\ isT T k [60, 61] = true) \/ (t = 3 /\ isT T k [61] = true)) := by
 unfold tstT at h
 split at h
 ·rename_i h0
  split at h
  ·rename_i h1; injection h with h; exact ⟨h0, .inl ⟨h.symm, h1⟩⟩
  ·split at h
   ·rename_i h1; injection h with h; exact ⟨h0, .inr (.inl ⟨h.symm, h1⟩)⟩
   ·split at h
    ·rename_i h1; injection h with h; exact ⟨h0, .inr (.inr ⟨h.symm, h1⟩)⟩
    ·cases h
 ·cases h
theorem tst_three {s0 : ByteArray} {L T : List Tk} (hRK : RkL s0 L T) {k : Nat} {t : Int} (hk : k < T.length) (h : tstT T k = some t) :
 isR L k ⟨#[60]⟩ = decide (t = 1) /\ isR L k ⟨#[60, 61]⟩ = decide (t = 2) /\ isR L k ⟨#[61]⟩ = decide (t = 3) := by
 obtain ⟨-, h⟩ := tstT_is h;have no : ∀ l m : List UInt8, isT T k l = true -> l ≠ m -> isR L k ⟨m.toArray⟩ = false := fun l m h1 h2 => isR_no hRK fun q => by
  rw [isT_eq] at h1 q;rw [h1] at q;injection q with q
  exact h2 (by have := congrArg Array.toList q; simpa using this)
 rcases h with ⟨rfl, h1⟩ | ⟨rfl, h1⟩ | ⟨rfl, h1⟩
 ·exact ⟨isR_yes hRK hk h1 (by decide +kernel) (by decide), no _ [60, 61] h1 (by decide), no _ [61] h1 (by decide)⟩
 ·exact ⟨no _ [60] h1 (by decide), isR_yes hRK hk h1 (by decide +kernel) (by decide), no _ [61] h1 (by decide)⟩
 ·exact ⟨no _ [60] h1 (by decide), no _ [60, 61] h1 (by decide), isR_yes hRK hk h1 (by decide +kernel) (by decide)⟩
theorem expr_no {s0 : ByteArray} {L T : List Tk} {g n c : Nat} {z : Int} {f : Nat} (hRK : RkL s0 L T) (hn : L.length = n) (hS : RdF 106 T L g n c z .su f) (k : Nat) (x : Ex) (k' : Nat) (h : prs T f .su k = some (x, k')) (hk : k < T.length) (hi : ¬ isT T k [105, 102] = true) : RdAt 58 L g n c z k x k' := by
 intro w hT;have i1 := isR_no hRK hi;have HN := Hd hn;have HT := Hd hT;have HOP := Hd (hS k x k' h hk);have HP0 := Hd (SuB.made w g n c z 118 122);clear h hRK hn hS hT hk hi;unfold tksV
 go_enter Tryz.func58, Tryz.ntmps58
 go_wp2_with fail
 refine (is_ref L g n c z k ⟨#[105, 102]⟩ _ (HT.out.below HP0.out.bel HT.out.1) HN.out).mono ?_;rintro e w4 ⟨rfl, hb⟩;rw [i1];have HP4 := Hd (HP0.out.below hb);clear hb;obtain ⟨⟨t0, t1⟩, ft0, ft1⟩ := HP4.out.t.pair;go_wp2_with fail
 refine (HOP.out _ (HT.out.below HP4.out.bel HT.out.1)).mono ?_;rintro e w5 ⟨a5, c5, rfl, hk5, hb⟩;have HP5 := Hd (HP4.out.below hb);have HK5 := Hd (hk5.mono (Q := fun b => w.heap.size + 1 < b) (fun b hb _ => Nat.lt_of_lt_of_le HP4.out.lt hb));clear hb hk5;obtain ⟨⟨o0, o1, o2, o3, o4, o5, o6⟩, fo0, fo1, fo2, fo3, fo4, fo5, fo6⟩ := HP5.out.o.seven;have hD := HP5.out.done c5 k' HK5.out;unfold rdV;go_wp2_with fail
 obtain ⟨hV, hK, hE⟩ := hD;obtain ⟨⟨e0, e1, e2, e3, e4, e5, e6⟩, -⟩ := hV.seven;simp only [rdL, putL, Nat.zero_add, Nat.reduceAdd] at e0 e1 e2 e3 e4 e5 e6;refine bodyPost_ret (v := rdV x a5 c5 k') ?_ rfl ⟨_, _, rfl, hK, hE⟩;simp [results, Tryz.results58, go_sem, e0, e1, e2, e3, e4, e5, e6, rdV]
end Go.Proofs.YtmlpedgcpffpnaaGreatDoor
