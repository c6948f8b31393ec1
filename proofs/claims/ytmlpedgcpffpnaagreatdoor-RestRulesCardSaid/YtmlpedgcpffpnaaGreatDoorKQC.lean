/-
  Promise J4: what Check lets pass: the machine's pile is as deep as Check says, wherever it is.
-/
import Derived.Test.YtmlpedgcpffpnaaGreatDoorKQB
import Derived.Test.YtmlpedgcpffpnaaGreatDoorKZ0
import Derived.Deep.RegionWith
set_option linter.unusedSimpArgs false
set_option maxRecDepth 100000
set_option maxHeartbeats 8000000
namespace Go.Proofs.YtmlpedgcpffpnaaGreatDoor
open Go.RowKit
structure KnR (kn : Kn) : Prop where
 ins : ∀ j, j < kn.ins.length -> monB (anth kn.ins j).mon = true
 yrs : ∀ j, j < kn.yrs.length -> monB (anth kn.yrs j).mon = true
 tbs : ∀ j, j < kn.tbs.length -> tblE (tnth kn.tbs j).name (tnth kn.tbs j).bks = 0
theorem firstE_zeroK2 {f : Nat -> Int} : ∀ {m : Nat}, firstE f m = 0 -> ∀ j, j < m -> f j = 0
 | m + 1, h, j, hj => by
   have h0 : firstE f m = 0 := by
    by_cases e : firstE f m = 0
    ·exact e
    ·simp [firstE, e] at h
   by_cases hjm : j = m
   ·subst hjm; rw [<- h, firstE_ok h0]
   ·exact firstE_zeroK2 h0 j (by omega)
theorem ams_monK {l : List Am} (h : amsE l = 0) {j : Nat} (hj : j < l.length) : monB (anth l j).mon = true := by
 unfold amsE at h
 split at h
 ·cases h
 ·split at h
  ·cases h
  ·rename_i h2
   have h3 : amsB l = true := by simpa using h2
   unfold amsB at h3
   have h4 := List.all_eq_true.1 h3 (anth l j) (by
    unfold anth;rw [List.getD_eq_getElem?_getD, List.getElem?_eq_getElem hj];exact List.getElem_mem hj)
   exact h4
theorem kn_right {kn : Kn} (h : knE kn = 0) : KnR kn := by
 unfold knE at h
 split at h
 ·cases h
 ·split at h
  ·rename_i hi
   split at h
   ·rename_i hy
    refine ⟨fun j hj => ams_monK hi hj, fun j hj => ams_monK hy hj, fun j hj => ?_⟩;unfold tbsE at h
    split at h
    ·rename_i ht
     exact firstE_zeroK2 ht j hj
    ·rename_i ht; exact absurd h ht
   ·rename_i hy; exact absurd h hy
  ·rename_i hi; exact absurd h hi
def Good (t : Nat) (d : Int) (S : Nat -> Sp) : Prop := (S t).r = true /\ ((S t).h = false -> (S t).d = d)
theorem Good.new (S : Nat -> Sp) (t : Nat) (d : Int) (k : Nat) : Good t d (rchS S t d k) := by unfold Good rchS; simp
theorem Good.rch {S : Nat -> Sp} {t : Nat} {d : Int} (h : Good t d S) (t' : Nat) (d' : Int) (k' : Nat) : Good t d (rchS S t' d' k') := by
 unfold Good rchS
 by_cases e : t = t'
 ·subst e;rw [if_pos rfl];refine ⟨rfl, fun hh => ?_⟩;have hh' : hungB (S t).d (S t).k d' k' (S t).r (S t).h = false := hh;unfold hungB at hh';rw [h.1] at hh';simp at hh';exact hh'.2.1.symm.trans (h.2 hh'.1)
 ·rw [if_neg e]; exact h
theorem Good.stp {S : Nat -> Sp} {t : Nat} {d : Int} (h : Good t d S) (o : Bk) (at_ : Nat) : Good t d (stpS S o at_) := by
 unfold stpS nxS
 split
 ·exact h
 ·split
  ·exact (h.rch _ _ _).rch _ _ _
  ·exact h.rch _ _ _
theorem Good.ck {l : List Bk} {t : Nat} {d : Int} {i : Nat} (h : Good t d (ckS l i)) : ∀ e, Good t d (ckS l (i + e))
 | 0 => h
 | e + 1 => (Good.ck h e).stp _ _
theorem stp_far {S : Nat -> Sp} {o : Bk} {at_ : Nat} (hr : (S at_).r = true) : Good (toN o at_) (nxD (S at_).d o.frm.toNat) (stpS S o at_) := by
 unfold stpS;rw [if_neg (by rw [hr]; decide)]
 split
 ·exact (Good.new _ _ _ _).rch _ _ _
 ·exact Good.new _ _ _ _
theorem stp_near {S : Nat -> Sp} {o : Bk} {at_ : Nat} (hr : (S at_).r = true) (h : o.frm = 15) : Good (at_ + 1) (nxD (S at_).d o.frm.toNat) (stpS S o at_) := by
 unfold stpS;rw [if_neg (by rw [hr]; decide), if_pos h];exact Good.new _ _ _ _
theorem maxI_ge (a b : Int) : a <= maxI a b /\ b <= maxI a b := by unfold maxI; split <;> omega
theorem ckM_le (l : List Bk) (i : Nat) : ∀ e, ckM l i <= ckM l (i + e)
 | 0 => Int.le_refl _
 | e + 1 => by
   refine Int.le_trans (ckM_le l i e) ?_
   show _ <= stpM _ _ _ _
   unfold stpM
   split
   ·exact Int.le_refl _
   ·exact (maxI_ge _ _).1
structure Pass (l : List Bk) (lines : Int) (n1 n2 n3 : Nat) : Prop where
 steps : firstE (ckE l lines n1 n2 n3) l.length = 0
 fin : ckEnd l lines = true
 many : l.length <= 10000
 l0 : 0 <= lines
 l40 : lines <= 40
theorem chk_pass {k : Kn} {l : List Bk} {lines : Int} (h : chkE k l lines = 0) : Pass l lines k.ins.length k.tbs.length k.yrs.length /\ knE k = 0 := by
 unfold chkE at h
 by_cases h1 : 10000 < l.length \/ lines < 0 \/ 40 < lines
 ·rw [if_pos h1] at h; omega
 rw [if_neg h1] at h
 by_cases h2 : knE k ≠ 0
 ·rw [if_pos h2] at h; exact absurd h h2
 rw [if_neg h2] at h
 by_cases h3 : firstE (ckE l lines k.ins.length k.tbs.length k.yrs.length) l.length ≠ 0
 ·rw [if_pos h3] at h; exact absurd h h3
 rw [if_neg h3] at h
 by_cases h4 : ckEnd l lines = true
 ·exact ⟨⟨by simpa using h3, h4, by omega, by omega, by omega⟩, by simpa using h2⟩
 ·rw [if_neg h4] at h; omega
structure Inv (l : List Bk) (L : Nat) (s : MS) : Prop where
 le : s.at_ <= l.length
 r : (ckS l s.at_ s.at_).r = true
 h : (ckS l s.at_ s.at_).h = false
 d : (s.m : Int) = (ckS l s.at_ s.at_).d
 P : ∀ j, j < s.m -> monB (s.P j) = true
 V : ∀ j, j < L -> monB (s.V j) = true
theorem pass_h {l : List Bk} {lines : Int} {n1 n2 n3 : Nat} (hp : Pass l lines n1 n2 n3) {t : Nat} (ht : t <= l.length) (hr : (ckS l t t).r = true) : (ckS l t t).h = false := by
 by_cases h : t < l.length
 ·exact ((stpE_ok (firstE_zeroK2 hp.steps t h)).2.2 hr).1
 ·obtain rfl : t = l.length := by omega
  have := hp.fin;unfold ckEnd at this;simp at this;exact this.1
theorem inv_to {l : List Bk} {lines : Int} {n1 n2 n3 : Nat} (hp : Pass l lines n1 n2 n3) {j t : Nat} (hj : j < l.length) (hr : (ckS l j j).r = true) (ht : t = toN (bnth l j) j \/ ((bnth l j).frm = 15 /\ t = j + 1)) : t <= l.length /\ j < t /\ (ckS l t t).r = true /\ (ckS l t t).h = false /\ (ckS l t t).d = nxD (ckS l j j).d (bnth l j).frm.toNat := by
 have hok := stpE_ok (firstE_zeroK2 hp.steps j hj);have hfar := fits_far hok.2.1 hj;have htl : t <= l.length /\ j < t := by
  rcases ht with rfl | ⟨_, rfl⟩
  ·unfold toN; omega
  ·omega
 have hg : Good t (nxD (ckS l j j).d (bnth l j).frm.toNat) (ckS l (j + 1)) := by
  rcases ht with rfl | ⟨h15, rfl⟩
  ·exact stp_far hr
  ·exact stp_near hr h15
 have hg2 := hg.ck (t - (j + 1));rw [show j + 1 + (t - (j + 1)) = t by omega] at hg2;have hh := pass_h hp htl.1 hg2.1;exact ⟨htl.1, htl.2, hg2.1, hh, hg2.2 hh⟩
theorem inv_room {l : List Bk} {lines : Int} {n1 n2 n3 : Nat} {L : Nat} {s : MS} (hp : Pass l lines n1 n2 n3) (hi : Inv l L s) (hj : s.at_ < l.length) : takesOf (bnth l s.at_).frm.toNat <= s.m /\ (s.m : Int) + (laysOf (bnth l s.at_).frm.toNat - takesOf (bnth l s.at_).frm.toNat) <= ckM l l.length := by
 have hok := stpE_ok (firstE_zeroK2 hp.steps s.at_ hj);have h1 := takes_le ((hok.2.2 hi.r).2);refine ⟨by rw [hi.d]; exact h1, ?_⟩;have h2 := ckM_le l (s.at_ + 1) (l.length - (s.at_ + 1));rw [show s.at_ + 1 + (l.length - (s.at_ + 1)) = l.length by omega] at h2;refine Int.le_trans ?_ h2
 show _ <= stpM _ _ _ _
 unfold stpM;rw [if_neg (by rw [hi.r]; decide), hi.d];exact (maxI_ge _ _).2
theorem ckM_20000 {l : List Bk} {lines : Int} {n1 n2 n3 : Nat} (hp : Pass l lines n1 n2 n3) : ∀ j, j <= l.length -> 0 <= ckM l j /\ ckM l j <= j
 | 0, _ => ⟨Int.le_refl _, Int.le_refl _⟩
 | j + 1, hj => by
   have h1 := ckM_20000 hp j (by omega);have hz : ∀ i, i <= l.length -> firstE (ckE l lines n1 n2 n3) i = 0 := fun i hi => by
    have hf : ∀ q, q < i -> ckE l lines n1 n2 n3 q = 0 := fun q hq => firstE_zeroK2 hp.steps q (by omega)
    clear hj h1
    induction i with
    | zero => rfl
    | succ i ih => rw [firstE_ok (ih (by omega) fun q hq => hf q (by omega))]; exact hf i (by omega)
   show 0 <= stpM _ _ _ _ /\ stpM _ _ _ _ <= _
   unfold stpM
   split
   ·omega
   ·rename_i hr
    have hr' : (ckS l j j).r = true := by simpa using hr
    have h2 := nxD_bd (firstE_zeroK2 hp.steps j (by omega)) (ckS_bnd hp.l40 j (by omega) (hz j (by omega))) hr' hp.l40;have h3 := maxI_ge (ckM l j) (nxD (ckS l j j).d (bnth l j).frm.toNat);unfold maxI at h3 ⊢
    split <;> split at h3 <;> omega
theorem fits_num {q : Nat} {z lines : Int} {n1 n2 n3 n at_ : Nat} (h : fitsB (q : Int) z lines n1 n2 n3 n at_ = true) : (q = 1 -> monB z = true) /\ (q = 2 -> 0 <= z /\ z < n1) /\ (q = 3 -> 0 <= z /\ z < lines) /\ (q = 4 -> 0 <= z /\ z < n3) /\ (q = 5 -> ratB z = true) /\ (q = 6 -> 0 <= z /\ z < n2) /\ (q = 10 \/ q = 11 -> 1 <= z /\ z <= 1000000) := by
 refine ⟨?_, ?_, ?_, ?_, ?_, ?_, ?_⟩
 ·rintro rfl; simpa [fitsB, fitB] using h
 ·rintro rfl; simpa [fitsB, fitB, lowB] using h
 ·rintro rfl; simpa [fitsB, fitB, lowB] using h
 ·rintro rfl; simpa [fitsB, fitB, lowB] using h
 ·rintro rfl; simpa [fitsB, fitB, ratB] using h
 ·rintro rfl; simpa [fitsB, fitB, lowB] using h
 ·rintro (rfl | rfl) <;> simpa [fitsB, fitB] using h
theorem rk_any (q : Nat) (hq1 : 1 <= q) (hq13 : q <= 13) (kn : Kn) (V : Nat -> Int) (z a b : Int) (w : World) (B mb pb vb most L : Nat) (a1 a2 a3 : Option Addr) (n1 c1 n2 c2 n3 c3 at_ m n ap : Nat) (P : Nat -> Int) (h : MAt w B mb pb vb most L a1 a2 a3 n1 c1 n2 c2 n3 c3 at_ m P V) (hk : CameK w a1 a2 a3 kn) (h1 : kn.ins.length = n1) (h2 : kn.tbs.length = n2) (h3 : kn.yrs.length = n3) (hr : KnR kn) (ha : monB a = true) (hb : monB b = true) (hf : fitsB (q : Int) z (L : Int) n1 n2 n3 n ap = true) : RkIs q kn V z a b mb w := by
 obtain ⟨f1, f2, f3, f4, f5, f6, f10⟩ := fits_num hf;have hc : q = 1 \/ q = 2 \/ q = 3 \/ q = 4 \/ q = 5 \/ q = 6 \/ q = 7 \/ q = 8 \/ q = 9 \/ q = 10 \/ q = 11 \/ q = 12 \/ q = 13 := by omega
 rcases hc with rfl | rfl | rfl | rfl | rfl | rfl | rfl | rfl | rfl | rfl | rfl | rfl | rfl
 ·exact rk_1 kn V z a b mb w
 ·obtain ⟨x, rfl⟩ : ∃ x : Nat, z = x := ⟨z.toNat, by have := f2 rfl; omega⟩;exact rk_2 kn V x a b w B mb pb vb most L a1 a2 a3 n1 c1 n2 c2 n3 c3 at_ m P h hk.1 h1 (by have := f2 rfl; omega)
 ·obtain ⟨x, rfl⟩ : ∃ x : Nat, z = x := ⟨z.toNat, by have := f3 rfl; omega⟩;exact rk_3 kn V x a b w B mb pb vb most L a1 a2 a3 n1 c1 n2 c2 n3 c3 at_ m P h (by have := f3 rfl; omega)
 ·obtain ⟨x, rfl⟩ : ∃ x : Nat, z = x := ⟨z.toNat, by have := f4 rfl; omega⟩;exact rk_4 kn V x a b w B mb pb vb most L a1 a2 a3 n1 c1 n2 c2 n3 c3 at_ m P h hk.2.2.1 h3 (by have := f4 rfl; omega)
 ·exact rk_5 kn V z a b mb w ha hb (by omega) f5
 ·obtain ⟨x, rfl⟩ : ∃ x : Nat, z = x := ⟨z.toNat, by have := f6 rfl; omega⟩;have hx : x < n2 := by have := f6 rfl; omega
  exact rk_6 kn V x a b w B mb pb vb most L a1 a2 a3 n1 c1 n2 c2 n3 c3 at_ m P h hk.2.1 h2 hx ha (hr.tbs x (by omega))
 ·exact rk_7 kn V z a b mb w ha
 ·exact rk_8 kn V z a b mb w ha hb (by omega) (by omega)
 ·exact rk_9 kn V z a b mb w ha hb (by omega) (by omega)
 ·exact rk_10 kn V z a b mb w ha hb (fun _ => f10 (.inl rfl)) (by omega)
 ·exact rk_11 kn V z a b mb w ha hb (fun _ => f10 (.inr rfl)) (by omega)
 ·exact rk_12 kn V z a b mb w
 ·exact rk_13 kn V z a b mb w
theorem monO_monK {n r : Int} (h : monO n = some r) : monB r = true := by
 unfold monO at h
 split at h
 ·rename_i h1; injection h with h; subst h; exact h1
 ·cases h
theorem rk_mon {q : Nat} (hq1 : 1 <= q) (hq13 : q <= 13) {kn : Kn} {V : Nat -> Int} {z a b : Int} {L n1 n2 n3 n ap : Nat} (h1 : kn.ins.length = n1) (h2 : kn.tbs.length = n2) (h3 : kn.yrs.length = n3) (hr : KnR kn) (ha : monB a = true) (hb : monB b = true) (hV : ∀ j, j < L -> monB (V j) = true) (hf : fitsB (q : Int) z (L : Int) n1 n2 n3 n ap = true) {r : Int} (h : rkO kn V q z a b = some r) : monB r = true := by
 obtain ⟨f1, f2, f3, f4, f5, f6, f10⟩ := fits_num hf;have hma := of_decide_eq_true ha;have hmb := of_decide_eq_true hb;have hc : q = 1 \/ q = 2 \/ q = 3 \/ q = 4 \/ q = 5 \/ q = 6 \/ q = 7 \/ q = 8 \/ q = 9 \/ q = 10 \/ q = 11 \/ q = 12 \/ q = 13 := by omega
 rcases hc with rfl | rfl | rfl | rfl | rfl | rfl | rfl | rfl | rfl | rfl | rfl | rfl | rfl <;> simp [rkO] at h
 ·subst h; exact f1 rfl
 ·subst h; exact hr.ins _ (by have := f2 rfl; omega)
 ·subst h; exact hV _ (by have := f3 rfl; omega)
 ·subst h; exact hr.yrs _ (by have := f4 rfl; omega)
 ·exact monO_monK h
 ·subst h;have ht := hr.tbs z.toNat (by have := f6 rfl; omega);have hl := tax_le (tblE_ok ht).2 a;exact decide_eq_true (by omega)
 ·subst h; exact decide_eq_true (by omega)
 ·exact monO_monK h
 ·exact monO_monK h
 ·exact monO_monK h
 ·exact monO_monK h
 ·subst h; split; exact hb; exact ha
 ·subst h; split; exact hb; exact ha
def tkN (q : Nat) : Nat := (takesOf (q : Int)).toNat
def opA (q : Nat) (s : MS) : Int := if tkN q = 0 then 0 else s.P (s.m - tkN q)
def opB (q : Nat) (s : MS) : Int := if tkN q = 2 then s.P (s.m - 2 + 1) else 0
def mstep (kn : Kn) (o : Bk) (s : MS) : Option MS :=
 if o.frm.toNat = 14 then some ⟨s.at_ + 1 + (furI 14 o.rate).toNat, s.m, s.P, s.V⟩
 else if o.frm.toNat = 15 then some ⟨if holdB (o.rate.tmod 4) (s.P (s.m - 2)) (s.P (s.m - 2 + 1)) = true then s.at_ + 1 else s.at_ + 1 + (furI 15 o.rate).toNat, s.m - 2, s.P, s.V⟩
 else if o.frm.toNat = 16 then some ⟨s.at_ + 1, s.m - 1, s.P, updF s.V o.rate.toNat (s.P (s.m - 1))⟩
 else (rkO kn s.V o.frm.toNat o.rate (opA o.frm.toNat s) (opB o.frm.toNat s)).map fun r => ⟨s.at_ + 1, s.m - tkN o.frm.toNat + 1, updF s.P (s.m - tkN o.frm.toNat) r, s.V⟩
def StEnd (w : World) (B mb pb vb most L : Nat) (a1 a2 a3 : Option Addr) (n1 c1 n2 c2 n3 c3 : Nat) (kn : Kn) (o : Bk) (s : MS) (e : Ending) (w' : World) : Prop :=
 Kp3 mb pb vb w w' /\ ((∃ s', mstep kn o s = some s' /\ e = .returned (.tuple #[]) /\ MAt w' B mb pb vb most L a1 a2 a3 n1 c1 n2 c2 n3 c3 s'.at_ s'.m s'.P s'.V) \/ (mstep kn o s = none /\ e = .panicked (gaveU 3) /\ ∃ u, MAt w' B mb pb vb most L a1 a2 a3 n1 c1 n2 c2 n3 c3 s.at_ u s.P s.V))
theorem MEnd.to {w w' : World} {B mb pb vb most L : Nat} {a1 a2 a3 : Option Addr} {n1 c1 n2 c2 n3 c3 u : Nat} {kn : Kn} {o : Bk} {s : MS} {x : Option MS} {e : Ending} (hx : mstep kn o s = x) (h : MEnd w B mb pb vb most L a1 a2 a3 n1 c1 n2 c2 n3 c3 s.at_ u s.P s.V x e w') : StEnd w B mb pb vb most L a1 a2 a3 n1 c1 n2 c2 n3 c3 kn o s e w' := by
 subst hx;obtain ⟨h1, h2 | h2⟩ := h
 ·exact ⟨h1, .inl h2⟩
 ·exact ⟨h1, .inr ⟨h2.1, h2.2.1, u, h2.2.2⟩⟩
theorem mon_zero : monB 0 = true := by decide
theorem mst_any {l : List Bk} {L : Nat} {n1 n2 n3 : Nat} (hp : Pass l (L : Int) n1 n2 n3) (hz : ∀ j, j < l.length -> I64 (bnth l j).rate) (W0 w : World) (mb pb vb most : Nat) (a1 a2 a3 : Option Addr) (c1 c2 c3 : Nat) (kn : Kn) (s : MS) (hi : Inv l L s) (hj : s.at_ < l.length) (hmo : (most : Int) = ckM l l.length) (hM : MAt w W0.heap.size mb pb vb most L a1 a2 a3 n1 c1 n2 c2 n3 c3 s.at_ s.m s.P s.V) (hB : Below W0.heap.size W0 w) (hE : Eff W0) (hk : CameK W0 a1 a2 a3 kn) (h1 : kn.ins.length = n1) (h2 : kn.tbs.length = n2) (h3 : kn.yrs.length = n3) (hr : KnR kn) :
 Calls Tryz.prog 52 #[.pointer (some ⟨mb, 0, none⟩), .agg #[.int .i64 (bnth l s.at_).frm, .int .i64 (bnth l s.at_).rate]] w fun e w' => StEnd w W0.heap.size mb pb vb most L a1 a2 a3 n1 c1 n2 c2 n3 c3 kn (bnth l s.at_) s e w' := by
 have hok := stpE_ok (firstE_zeroK2 hp.steps s.at_ hj);have hroom := inv_room hp hi hj;have hfar := fits_far hok.2.1 hj;have hzz := hz s.at_ hj;have hmost : most <= 20000 := by have := (ckM_20000 hp l.length (Nat.le_refl _)).2; have := hp.many; omega
 have hat : s.at_ <= 10000 := by have := hp.many; omega
 have hmany := hp.many;obtain ⟨q, hq⟩ : ∃ q : Nat, (bnth l s.at_).frm = (q : Int) := ⟨(bnth l s.at_).frm.toNat, by omega⟩;have hqn : (bnth l s.at_).frm.toNat = q := by omega
 have hf := hok.2.1;rw [hq] at hf hfar;rw [hqn] at hroom;have hqr := hok.1;rw [hq] at hqr ⊢;obtain ⟨z, hzd⟩ : ∃ z : Int, (bnth l s.at_).rate = z := ⟨_, rfl⟩;rw [hzd] at hf hfar hzz ⊢
 by_cases h14 : q = 14
 ·subst h14;refine (mst_14 W0 w mb pb vb most L a1 a2 a3 n1 c1 n2 c2 n3 c3 s.at_ s.m z s.P s.V hM hB hE hzz hmost hat ⟨hfar.1, by have h9 : (s.at_ : Int) + 1 + furI 14 z <= l.length := hfar.2; omega⟩).mono fun e w' h => h.to ?_
  unfold mstep;rw [hqn, hzd, if_pos rfl]
 by_cases h15 : q = 15
 ·subst h15
  have hm2 : 2 ≤ s.m := by have : takesOf ((15 : Nat) : Int) = 2 := by decide
                           omega
  refine (mst_15 W0 w mb pb vb most L a1 a2 a3 n1 c1 n2 c2 n3 c3 s.at_ s.m z s.P s.V hM hB hE hzz hmost hat hm2 ⟨hfar.1, by have h9 : (s.at_ : Int) + 1 + furI 15 z <= l.length := hfar.2; omega⟩).mono fun e w' h => h.to ?_
  unfold mstep;rw [hqn, hzd, if_neg (by decide), if_pos rfl]
 by_cases h16 : q = 16
 ·subst h16
  have hm1 : 1 ≤ s.m := by have : takesOf ((16 : Nat) : Int) = 1 := by decide
                           omega
  have hzl := fits_line hf (.inr rfl);obtain ⟨x, rfl⟩ : ∃ x : Nat, z = x := ⟨z.toNat, by omega⟩;refine (mst_16 W0 w mb pb vb most L a1 a2 a3 n1 c1 n2 c2 n3 c3 s.at_ s.m x s.P s.V hM hB hE hmost hat hm1 (by omega)).mono fun e w' h => h.to ?_
  unfold mstep;rw [hqn, hzd, if_neg (by decide), if_neg (by decide), if_pos rfl, Int.toNat_natCast]
 have hq13 : q <= 13 := by omega
 have hq1 : 1 <= q := by omega
 have htb := takes_bd (q : Int);have hla : laysOf (q : Int) = 1 := by unfold laysOf; rw [if_pos (by omega)]
 have hut : ((tkN q : Nat) : Int) = takesOf (q : Int) := by unfold tkN; omega
 have hA : monB (opA q s) = true := by
  unfold opA
  split
  ·exact mon_zero
  ·exact hi.P _ (by omega)
 have hBm : monB (opB q s) = true := by
  unfold opB
  split
  ·exact hi.P _ (by omega)
  ·exact mon_zero
 refine (mst_lay W0 w mb pb vb most L a1 a2 a3 n1 c1 n2 c2 n3 c3 s.at_ s.m (s.m - tkN q) q z (opA q s) (opB q s) s.P s.V kn hM hB hE hq1 hq13 (by omega) hat ?_ ?_).mono fun e w' h => h.to ?_
 ·intro w1 hw1;have hcase : tkN q = 0 \/ tkN q = 1 \/ tkN q = 2 := by omega
  rcases hcase with e0 | e0 | e0
  ·rw [<- hut, e0];unfold opA opB;rw [if_pos e0, if_neg (by omega), Nat.sub_zero];exact take_0 w1 _ mb pb vb most L a1 a2 a3 n1 c1 n2 c2 n3 c3 s.at_ s.m s.P s.V hw1 hmost
  ·rw [<- hut, e0];unfold opA opB;rw [if_neg (by omega), if_neg (by omega), e0];exact take_1 w1 _ mb pb vb most L a1 a2 a3 n1 c1 n2 c2 n3 c3 s.at_ s.m s.P s.V hw1 (by omega) hmost
  ·rw [<- hut, e0];unfold opA opB;rw [if_neg (by omega), if_pos e0, e0];exact take_2 w1 _ mb pb vb most L a1 a2 a3 n1 c1 n2 c2 n3 c3 s.at_ s.m s.P s.V hw1 (by omega) hmost
 ·intro w1 hw1 hb1;exact rk_any q hq1 hq13 kn s.V z _ _ w1 _ mb pb vb most L a1 a2 a3 n1 c1 n2 c2 n3 c3 s.at_ _ l.length s.at_ s.P hw1 (hk.below hb1) h1 h2 h3 hr hA hBm hf
 ·unfold mstep;rw [hqn, hzd, if_neg h14, if_neg h15, if_neg h16]
theorem fur_else {q : Nat} {z : Int} (h1 : q ≠ 14) (h2 : q ≠ 15) : furI (q : Int) z = 0 := by unfold furI; rw [if_neg (by omega), if_neg (by omega)]
theorem Inv.at {l : List Bk} {L t m : Nat} {P V : Nat -> Int} (h1 : t <= l.length) (h2 : (ckS l t t).r = true) (h3 : (ckS l t t).h = false) (h4 : (m : Int) = (ckS l t t).d) (h5 : ∀ j, j < m -> monB (P j) = true) (h6 : ∀ j, j < L -> monB (V j) = true) : Inv l L ⟨t, m, P, V⟩ := ⟨h1, h2, h3, h4, h5, h6⟩
theorem inv_step {l : List Bk} {L : Nat} {n1 n2 n3 : Nat} (hp : Pass l (L : Int) n1 n2 n3) {kn : Kn} (h1 : kn.ins.length = n1) (h2 : kn.tbs.length = n2) (h3 : kn.yrs.length = n3) (hr : KnR kn) {s s' : MS} (hi : Inv l L s) (hj : s.at_ < l.length) (h : mstep kn (bnth l s.at_) s = some s') : Inv l L s' /\ s.at_ < s'.at_ := by
 have hok := stpE_ok (firstE_zeroK2 hp.steps s.at_ hj);have hroom := inv_room hp hi hj;have hto := fun t ht => inv_to (t := t) hp hj hi.r ht
 obtain ⟨q, hq⟩ : ∃ q : Nat, (bnth l s.at_).frm = (q : Int) := ⟨(bnth l s.at_).frm.toNat, by omega⟩;have hqn : (bnth l s.at_).frm.toNat = q := by omega
 obtain ⟨z, hzd⟩ : ∃ z : Int, (bnth l s.at_).rate = z := ⟨_, rfl⟩;have hf := hok.2.1;have hqr := hok.1;have htn : toN (bnth l s.at_) s.at_ = s.at_ + 1 + (furI (q : Int) z).toNat := by unfold toN; rw [hq, hzd]
 rw [hq] at hf hqr;rw [hzd] at hf;rw [hqn] at hroom;rw [htn, hq] at hto;rw [show (((q : Nat) : Int)).toNat = q by omega] at hto;unfold mstep at h;rw [hqn, hzd] at h;have hd := hi.d
 by_cases h14 : q = 14
 ·subst h14;rw [if_pos rfl] at h;injection h with h
  subst h;obtain ⟨t1, t2, t3, t4, t5⟩ := hto (s.at_ + 1 + (furI 14 z).toNat) (.inl rfl);have h9 : laysOf ((14 : Nat) : Int) - takesOf ((14 : Nat) : Int) = 0 := by decide
  exact ⟨Inv.at t1 t3 t4 (by rw [t5, <- hd]; unfold nxD; omega) hi.P hi.V, t2⟩
 rw [if_neg h14] at h
 by_cases h15 : q = 15
 ·subst h15;rw [if_pos rfl] at h;injection h with h
  subst h;have h9 : laysOf ((15 : Nat) : Int) - takesOf ((15 : Nat) : Int) = -2 := by decide
  have h8 : takesOf ((15 : Nat) : Int) = 2 := by decide
  have hm2 : 2 <= s.m := by omega
  by_cases hh : holdB (z.tmod 4) (s.P (s.m - 2)) (s.P (s.m - 2 + 1)) = true
  ·rw [if_pos hh];obtain ⟨t1, t2, t3, t4, t5⟩ := hto (s.at_ + 1) (.inr ⟨rfl, rfl⟩);exact ⟨Inv.at t1 t3 t4 (by rw [t5, <- hd]; unfold nxD; omega) (fun j hj => hi.P j (by omega)) hi.V, t2⟩
  ·rw [if_neg hh];obtain ⟨t1, t2, t3, t4, t5⟩ := hto (s.at_ + 1 + (furI 15 z).toNat) (.inl rfl);exact ⟨Inv.at t1 t3 t4 (by rw [t5, <- hd]; unfold nxD; omega) (fun j hj => hi.P j (by omega)) hi.V, t2⟩
 rw [if_neg h15] at h;have hfu := fur_else (z := z) h14 h15;rw [hfu] at hto;obtain ⟨t1, t2, t3, t4, t5⟩ := hto (s.at_ + 1) (.inl rfl)
 by_cases h16 : q = 16
 ·subst h16;rw [if_pos rfl] at h;injection h with h
  subst h;have h9 : laysOf ((16 : Nat) : Int) - takesOf ((16 : Nat) : Int) = -1 := by decide
  have h8 : takesOf ((16 : Nat) : Int) = 1 := by decide
  have hm1 : 1 <= s.m := by omega
  refine ⟨Inv.at t1 t3 t4 (by rw [t5, <- hd]; unfold nxD; omega) (fun j hj => hi.P j (by omega)) (fun j hj => ?_), t2⟩
  show monB (updF s.V z.toNat (s.P (s.m - 1)) j) = true
  unfold updF
  split
  ·exact hi.P _ (by omega)
  ·exact hi.V j hj
 rw [if_neg h16] at h;have hq13 : q <= 13 := by omega
 have hq1 : 1 <= q := by omega
 have htb := takes_bd (q : Int);have hla : laysOf (q : Int) = 1 := by unfold laysOf; rw [if_pos (by omega)]
 have hut : ((tkN q : Nat) : Int) = takesOf (q : Int) := by unfold tkN; omega
 have hA : monB (opA q s) = true := by
  unfold opA
  split
  ·exact mon_zero
  ·exact hi.P _ (by omega)
 have hBm : monB (opB q s) = true := by
  unfold opB
  split
  ·exact hi.P _ (by omega)
  ·exact mon_zero
 obtain ⟨r, hr1, hr2⟩ := Option.map_eq_some_iff.1 h;subst hr2;have hrm := rk_mon hq1 hq13 h1 h2 h3 hr hA hBm hi.V hf hr1;refine ⟨Inv.at t1 t3 t4 (by rw [t5, <- hd]; unfold nxD; omega) (fun j hj => ?_) hi.V, t2⟩
 show monB (updF s.P (s.m - tkN q) r j) = true
 unfold updF
 split
 ·exact hrm
 ·have : j < s.m - tkN q + 1 := hj;exact hi.P j (by omega)
inductive MReach (kn : Kn) (l : List Bk) : MS -> MS -> Prop
 | refl (s : MS) : MReach kn l s s
 | step {s t t' : MS} : MReach kn l s t -> t.at_ < l.length -> mstep kn (bnth l t.at_) t = some t' -> MReach kn l s t'
def RunEnd (w : World) (B mb pb vb most L : Nat) (a1 a2 a3 : Option Addr) (n1 c1 n2 c2 n3 c3 : Nat) (kn : Kn) (l : List Bk) (s0 : MS) (e : Ending) (w' : World) : Prop :=
 Kp3 mb pb vb w w' /\ ∃ s, MReach kn l s0 s /\ Inv l L s /\ ((s.at_ = l.length /\ e = .returned (.tuple #[]) /\ MAt w' B mb pb vb most L a1 a2 a3 n1 c1 n2 c2 n3 c3 s.at_ s.m s.P s.V) \/ (s.at_ < l.length /\ mstep kn (bnth l s.at_) s = none /\ e = .panicked (gaveU 3) /\ ∃ u, MAt w' B mb pb vb most L a1 a2 a3 n1 c1 n2 c2 n3 c3 s.at_ u s.P s.V))
theorem run1_any {l : List Bk} {L : Nat} {n1 n2 n3 : Nat} (hp : Pass l (L : Int) n1 n2 n3) (hz : ∀ j, j < l.length -> I64 (bnth l j).rate) (W0 w : World) (a : Option Addr) (n cap mx ox mb pb vb most : Nat) (a1 a2 a3 : Option Addr) (c1 c2 c3 : Nat) (kn : Kn) (s0 : MS) (hi : Inv l L s0) (hmo : (most : Int) = ckM l l.length) (hM : MAt w W0.heap.size mb pb vb most L a1 a2 a3 n1 c1 n2 c2 n3 c3 s0.at_ s0.m s0.P s0.V) (hB : Below W0.heap.size W0 w) (hE : Eff W0) (hl : CameB W0 a l) (hn : l.length = n) (hk : CameK W0 a1 a2 a3 kn) (h1 : kn.ins.length = n1) (h2 : kn.tbs.length = n2) (h3 : kn.yrs.length = n3) (hr : KnR kn)
 (hx : w.cell? ⟨mx, 0, none⟩ = some (.pointer (some ⟨mb, 0, none⟩))) (ho : w.cell? ⟨ox, 0, none⟩ = some (.slice a n cap)) (hmx : mx ≠ mb /\ mx ≠ pb /\ mx ≠ vb) (hox : ox ≠ mb /\ ox ≠ pb /\ ox ≠ vb) :
 Calls Tryz.prog 51 #[.pointer (some ⟨mx, 0, none⟩), .pointer (some ⟨ox, 0, none⟩)] w fun e w' => RunEnd w W0.heap.size mb pb vb most L a1 a2 a3 n1 c1 n2 c2 n3 c3 kn l s0 e w' := by
 have HP := Hd hp;have HST := Hd (fun w1 s hi hj hM hB => mst_any hp hz W0 w1 mb pb vb most a1 a2 a3 c1 c2 c3 kn s hi hj hmo hM hB hE hk h1 h2 h3 hr);have HIS := Hd (fun s s' hi hj h => inv_step (kn := kn) hp h1 h2 h3 hr (s := s) (s' := s') hi hj h);have HI := Hd hi;have HM0 := Hd hM;have HB0 := Hd hB;have HO := Hd (fun h0 => hl.open hn h0);have HN := Hd hn;have HX := Hd (And.intro hx ho);have HNE := Hd (And.intro hmx hox);have HBS : Hid (W0.heap.size <= w.heap.size /\ W0.heap.size <= mb /\ W0.heap.size <= pb /\ W0.heap.size <= vb) := ⟨hB.size, hM.bm, hM.bp, hM.bv⟩;clear hp hz hi hmo hM hB hE hl hn hk h1 h2 h3 hr hx ho hmx hox
 go_enter Tryz.func51, Tryz.ntmps51
 go_wp2_with fail
 go_loopw [2] (fun _ wr => ∃ s, MReach kn l s0 s /\ Inv l L s /\ MAt wr W0.heap.size mb pb vb most L a1 a2 a3 n1 c1 n2 c2 n3 c3 s.at_ s.m s.P s.V /\ Kp3 mb pb vb w wr) (fun _ wr => n - (intOf ((wr.cell? ⟨mb, 3, none⟩).getD (.int .i64 0))).toNat)
 case atStart => exact ⟨s0, .refl _, HI.out, HM0.out, Kp3.of (Below.refl _ _)⟩
 case round =>
  obtain ⟨s, hre, hin, hma, hkp⟩ := hrel;have HRE := Hd hre;have HIN := Hd hin;have HM := Hd hma;have HKP := Hd hkp;have HBW := Hd (HB0.out.trans (hkp.below HBS.out.1 HBS.out.2.1 HBS.out.2.2.1 HBS.out.2.2.2));have HXr := Hd (And.intro (hkp.cell HX.out.1 HNE.out.1.1 HNE.out.1.2.1 HNE.out.1.2.2) (hkp.cell HX.out.2 HNE.out.2.1 HNE.out.2.2.1 HNE.out.2.2.2));clear hre hin hma hkp;have x0 : wr.drew.cell? ⟨mx, 0, none⟩ = some (.pointer (some ⟨mb, 0, none⟩)) := HXr.out.1;have x1 : wr.drew.cell? ⟨ox, 0, none⟩ = some (.slice a n cap) := HXr.out.2;have x3 : wr.drew.cell? ⟨mb, 3, none⟩ = some (.int .i64 (s.at_ : Int)) := HM.out.bx.at 3 rfl;have HME : Hid (wr.cell? ⟨mb, 3, none⟩ = some (.int .i64 (s.at_ : Int))) := HM.out.bx.at 3 rfl;have HBd : Hid (Below wr.heap.size wr wr.drew) := Hd (kbelow_dN (Below.refl _ _) 1)
  by_cases hlt : s.at_ < n
  ·have hlt' : (s.at_ : Int) < (n : Int) := by omega
   have hltB : decide (s.at_ < n) = true := decide_eq_true hlt;go_wp2_with fail
   go_region
   clear x0 x1 x3;have HKX := Hd (HKP.out.trans (Kp3.of HBd.out));have HMX := Hd (HM.out.below HBd.out);have HBX := Hd (HBW.out.trans (HBd.out.mono HBW.out.size));have HXX : Hid (wr.drew.cell? ⟨mx, 0, none⟩ = some (.pointer (some ⟨mb, 0, none⟩)) /\ wr.drew.cell? ⟨ox, 0, none⟩ = some (.slice a n cap)) := HXr.out;clear HBd HM HBW HXr HKP;generalize wr.drew = X at HKX HMX HBX HXX ⊢;have HBe : Hid (Below X.heap.size X X.drew) := Hd (kbelow_dN (Below.refl _ _) 1);have HMe := Hd (HMX.out.below HBe.out);have HBz := Hd (HBX.out.trans (HBe.out.mono HBX.out.size));have y0 : X.drew.cell? ⟨mx, 0, none⟩ = some (.pointer (some ⟨mb, 0, none⟩)) := HXX.out.1;have y1 : X.drew.cell? ⟨ox, 0, none⟩ = some (.slice a n cap) := HXX.out.2;have y3 : X.drew.cell? ⟨mb, 3, none⟩ = some (.int .i64 (s.at_ : Int)) := HMe.out.bx.at 3 rfl;obtain ⟨kb, off, rfl, hcell⟩ := HO.out (by omega);obtain ⟨k0, k1⟩ := hcell _ HBz.out s.at_ hlt;have HLT : Hid (s.at_ < l.length) := by rw [HN.out]; exact hlt
   clear hcell;go_wp2_with fail
   go_region_with (go_at_call 52; refine (HST.out _ s HIN.out HLT.out HMe.out HBz.out).mono ?_; rintro e w5 ⟨hk5, hres⟩; rcases hres.symm with ⟨hs', rfl, u, hm'⟩ | ⟨s', hs', rfl, hm'⟩; · exact ⟨rfl, (HKX.out.trans (Kp3.of HBe.out)).trans hk5, s, HRE.out, HIN.out, .inr ⟨HLT.out, hs', rfl, u, hm'⟩⟩)
   all_goals
    have HK5 := Hd ((HKX.out.trans (Kp3.of HBe.out)).trans hk5);have HM5 := Hd hm';have HIV := Hd (HIS.out s s' HIN.out HLT.out hs');have HR5 := Hd (MReach.step HRE.out HLT.out hs');have HE5 : Hid (w5.cell? ⟨mb, 3, none⟩ = some (.int .i64 (s'.at_ : Int))) := HM5.out.bx.at 3 rfl;clear hk5 hm' hs';go_wp2_with fail
    go_roundw
    ·exact ⟨s', HR5.out, HIV.out.1, HM5.out, HK5.out⟩
    ·rw [HE5.out, HME.out];have := HIV.out.2;have := HIV.out.1.le;have := HN.out;simp [intOf];omega
  ·have hltB : decide (s.at_ < n) = false := dEf hlt;have hlt' : ¬ (s.at_ : Int) < (n : Int) := by omega
   go_wp2_with fail
   go_region
   go_wp2_with fail
   refine bodyPost_end (v := .tuple #[]) (by simp [results, Tryz.results51, go_sem]) rfl ?_;exact ⟨HKP.out.trans (Kp3.of HBd.out), s, HRE.out, HIN.out, .inl ⟨by have := HIN.out.le; have := HN.out; omega, rfl, HM.out.below HBd.out⟩⟩
end Go.Proofs.YtmlpedgcpffpnaaGreatDoor
