/-
  Promise J2: what the reference's CheckProgram keeps in memory: what lies ahead of each step, and which are bad.
  Promise J2: the reference's greatest depth is the program's; one comes to the end.
  Promise J2: the reference's CheckProgram: its rows while they are made; what WrongOp says of a step's error.
  Promise J2: the reference's CheckProgram: what is laid ahead of the next steps; where one goes from a step.
-/
import Derived.Test.YtmlpedgcpffpnaaGreatDoorKQ
import Derived.Test.YtmlpedgcpffpnaaGreatDoorKI
import Derived.Test.YtmlpedgcpffpnaaGreatDoorKK
import Derived.Test.YtmlpedgcpffpnaaGreatDoorKM
import Derived.Test.YtmlpedgcpffpnaaGreatDoorKO
import Derived.Lib.QuietBelow
import Derived.BigQuiet
import Derived.ArgAppend
set_option linter.unusedSimpArgs false
namespace Go.Proofs.YtmlpedgcpffpnaaGreatDoor
open Go.RowKit
structure RAt (w : World) (B ab bb n L : Nat) (M : Nat → Int) (A C K : Nat → Nat) (S : Nat → Sp) : Prop where
 many : ∀ t, t ≤ n → w.cell? ⟨ab, t * 2, none⟩ = some (.int .i64 (M t)) ∧ w.frozen? ⟨ab, t * 2, none⟩ = false ∧ w.frozen? ⟨ab, t * 2 + 1, none⟩ = false
 kept : ∀ t, t ≤ n → w.cell? ⟨ab, t * 2 + 1, none⟩ = some (if (S t).r = true then .slice (some ⟨A t, 0, none⟩) L (C t) else .slice none 0 0)
 bad : ∀ t, t ≤ n → w.cell? ⟨bb, t, none⟩ = some (.bool (S t).h) ∧ w.frozen? ⟨bb, t, none⟩ = false
 non : ∀ t, t ≤ n → (S t).r = false → M t < 0 ∧ (S t).h = false
 yes : ∀ t, t ≤ n → (S t).r = true → (0 ≤ M t ∧ K t < 2 ^ L) ∧ (A t < w.heap.size ∧ A t ≠ ab ∧ A t ≠ bb ∧ B ≤ A t) ∧ ∀ j, j < L → w.cell? ⟨A t, j, none⟩ = some (.bool ((K t).testBit j))
 one : ∀ t, t ≤ n → (S t).r = true → (S t).h = false → M t = (S t).d ∧ K t = (S t).k
 la : ab < w.heap.size
 lb : bb < w.heap.size
 ne : ab ≠ bb
 ba : B ≤ ab
 bb' : B ≤ bb
section
variable {w w' : World} {B ab bb n L : Nat} {M : Nat → Int} {A C K : Nat → Nat} {S : Nat → Sp}
theorem RAt.below (h : RAt w B ab bb n L M A C K S) (hb : Below w.heap.size w w') : RAt w' B ab bb n L M A C K S :=
 { h with
   many := fun t ht => ⟨(hb.cell (p := ⟨ab, t * 2, none⟩) h.la).trans (h.many t ht).1, (hb.frozen (p := ⟨ab, t * 2, none⟩) h.la).trans (h.many t ht).2.1, (hb.frozen (p := ⟨ab, t * 2 + 1, none⟩) h.la).trans (h.many t ht).2.2⟩
   kept := fun t ht => (hb.cell (p := ⟨ab, t * 2 + 1, none⟩) h.la).trans (h.kept t ht)
   bad := fun t ht => ⟨(hb.cell (p := ⟨bb, t, none⟩) h.lb).trans (h.bad t ht).1, (hb.frozen (p := ⟨bb, t, none⟩) h.lb).trans (h.bad t ht).2⟩
   yes := fun t ht hr => by
    obtain ⟨h1, ⟨h2, h3, h4, h5⟩, h6⟩ := h.yes t ht hr
    exact ⟨h1, ⟨Nat.lt_of_lt_of_le h2 hb.size, h3, h4, h5⟩, fun j hj => (hb.cell (p := ⟨A t, j, none⟩) h2).trans (h6 j hj)⟩
   la := Nat.lt_of_lt_of_le h.la hb.size
   lb := Nat.lt_of_lt_of_le h.lb hb.size }
def updN (F : Nat → Nat) (i x : Nat) : Nat → Nat := fun j => if j = i then x else F j
theorem rch_at (S : Nat → Sp) (t : Nat) (d : Int) (k : Nat) : rchS S t d k t = ⟨d, k, true, hungB (S t).d (S t).k d k (S t).r (S t).h⟩ := by unfold rchS; rw [if_pos rfl]
theorem rch_ne (S : Nat → Sp) {t j : Nat} (d : Int) (k : Nat) (h : j ≠ t) : rchS S t d k j = S j := by unfold rchS; rw [if_neg h]
theorem RAt.lay (h : RAt w B ab bb n L M A C K S) {t : Nat} (ht : t ≤ n) (hr : (S t).r = false) (d : Int) (k g c : Nat) (hd : 0 ≤ d) (hk : k < 2 ^ L) (hg : g < w.heap.size ∧ g ≠ ab ∧ g ≠ bb ∧ B ≤ g) (hc : ∀ j, j < L → w.cell? ⟨g, j, none⟩ = some (.bool (k.testBit j))) :
 RAt ((w.setCell ⟨ab, t * 2, none⟩ (.int .i64 d)).setCell ⟨ab, t * 2 + 1, none⟩ (.slice (some ⟨g, 0, none⟩) L c)) B ab bb n L (updF M t d) (updN A t g) (updN C t c) (updN K t k) (rchS S t d k) := by
 have hh : (S t).h = false := (h.non t ht hr).2
 have hs : rchS S t d k t = ⟨d, k, true, false⟩ := by rw [rch_at]; unfold hungB; rw [hr, hh]; rfl
 have e0 := (h.many t ht).1
 have e1 : (w.setCell ⟨ab, t * 2, none⟩ (.int .i64 d)).cell? ⟨ab, t * 2 + 1, none⟩ = some (.slice none 0 0) := by
  rw [put_cell e0, if_neg (by omega), h.kept t ht, if_neg (by rw [hr]; decide)]
 have hx : ∀ q, ((w.setCell ⟨ab, t * 2, none⟩ (.int .i64 d)).setCell ⟨ab, t * 2 + 1, none⟩ (.slice (some ⟨g, 0, none⟩) L c)).cell? ⟨ab, q, none⟩ = if q = t * 2 + 1 then some (.slice (some ⟨g, 0, none⟩) L c) else if q = t * 2 then some (.int .i64 d) else w.cell? ⟨ab, q, none⟩ := fun q => by rw [put_cell e1, put_cell e0]
 have ho : ∀ b q, ab ≠ b → ((w.setCell ⟨ab, t * 2, none⟩ (.int .i64 d)).setCell ⟨ab, t * 2 + 1, none⟩ (.slice (some ⟨g, 0, none⟩) L c)).cell? ⟨b, q, none⟩ = w.cell? ⟨b, q, none⟩ := fun b q hb => by rw [cell_apart _ hb, cell_apart _ hb]
 have hf : ∀ a, ((w.setCell ⟨ab, t * 2, none⟩ (.int .i64 d)).setCell ⟨ab, t * 2 + 1, none⟩ (.slice (some ⟨g, 0, none⟩) L c)).frozen? a = w.frozen? a := fun a => by rw [World.frozen?_setCell, World.frozen?_setCell]
 have hz : ((w.setCell ⟨ab, t * 2, none⟩ (.int .i64 d)).setCell ⟨ab, t * 2 + 1, none⟩ (.slice (some ⟨g, 0, none⟩) L c)).heap.size = w.heap.size := by simp
 generalize ((w.setCell ⟨ab, t * 2, none⟩ (.int .i64 d)).setCell ⟨ab, t * 2 + 1, none⟩ (.slice (some ⟨g, 0, none⟩) L c)) = W at *
 refine ⟨fun q hq => ⟨?_, (hf _).trans (h.many q hq).2.1, (hf _).trans (h.many q hq).2.2⟩, fun q hq => ?_, fun q hq => ⟨?_, (hf _).trans (h.bad q hq).2⟩, fun q hq hqr => ?_, fun q hq hqr => ?_, fun q hq hqr hqh => ?_, by rw [hz]; exact h.la, by rw [hz]; exact h.lb, h.ne, h.ba, h.bb'⟩
 ·rw [hx, if_neg (by omega)]
  unfold updF
  by_cases e : q = t
  ·subst e; rw [if_pos rfl, if_pos rfl]
  ·rw [if_neg (by omega), if_neg e]; exact (h.many q hq).1
 ·rw [hx]
  by_cases e : q = t
  ·subst e
   rw [if_pos rfl, hs]
   unfold updN
   simp
  ·rw [if_neg (by omega), if_neg (by omega), rch_ne S d k e, h.kept q hq]
   unfold updN
   rw [if_neg e, if_neg e]
 ·rw [ho bb q h.ne]
  by_cases e : q = t
  ·subst e; rw [hs, (h.bad q hq).1, hh]
  ·rw [rch_ne S d k e]; exact (h.bad q hq).1
 ·by_cases e : q = t
  ·subst e; rw [hs] at hqr; cases hqr
  ·rw [rch_ne S d k e] at hqr ⊢
   unfold updF
   rw [if_neg e]
   exact h.non q hq hqr
 ·by_cases e : q = t
  ·subst e
   unfold updF updN
   rw [if_pos rfl, if_pos rfl, if_pos rfl, hz]
   exact ⟨⟨hd, hk⟩, hg, fun j hj => by rw [ho g j (Ne.symm hg.2.1)]; exact hc j hj⟩
  ·rw [rch_ne S d k e] at hqr
   unfold updF updN
   rw [if_neg e, if_neg e, if_neg e, hz]
   obtain ⟨h1, h2, h3⟩ := h.yes q hq hqr
   exact ⟨h1, h2, fun j hj => by rw [ho (A q) j (Ne.symm h2.2.1)]; exact h3 j hj⟩
 ·by_cases e : q = t
  ·subst e
   rw [hs]
   unfold updF updN
   rw [if_pos rfl, if_pos rfl]
   exact ⟨rfl, rfl⟩
  ·rw [rch_ne S d k e] at hqr hqh ⊢
   unfold updF updN
   rw [if_neg e, if_neg e]
   exact h.one q hq hqr hqh
theorem RAt.mark (h : RAt w B ab bb n L M A C K S) {t : Nat} (ht : t ≤ n) (hr : (S t).r = true) (d : Int) (k : Nat) (hh : hungB (S t).d (S t).k d k (S t).r (S t).h = true) :
 RAt (w.setCell ⟨bb, t, none⟩ (.bool true)) B ab bb n L M A C K (rchS S t d k) := by
 have hs : rchS S t d k t = ⟨d, k, true, true⟩ := by rw [rch_at, hh]
 have hrr : ∀ q, (rchS S t d k q).r = (S q).r := fun q => by
  by_cases e : q = t
  ·subst e; rw [hs, hr]
  ·rw [rch_ne S d k e]
 have e0 := (h.bad t ht).1
 have hsz : (w.setCell ⟨bb, t, none⟩ (.bool true)).heap.size = w.heap.size := by simp
 refine ⟨fun q hq => by rw [cell_apart w (Ne.symm h.ne), World.frozen?_setCell, World.frozen?_setCell]; exact h.many q hq, fun q hq => by rw [cell_apart w (Ne.symm h.ne), hrr q]; exact h.kept q hq, fun q hq => ?_, fun q hq hqr => ?_, fun q hq hqr => ?_, fun q hq hqr hqh => ?_, by rw [hsz]; exact h.la, by rw [hsz]; exact h.lb, h.ne, h.ba, h.bb'⟩
 ·rw [put_cell e0, World.frozen?_setCell]
  refine ⟨?_, (h.bad q hq).2⟩
  by_cases e : q = t
  ·subst e; rw [if_pos rfl, hs]
  ·rw [if_neg e, rch_ne S d k e]; exact (h.bad q hq).1
 ·rw [hrr q] at hqr
  by_cases e : q = t
  ·subst e; rw [hr] at hqr; cases hqr
  ·rw [rch_ne S d k e]; exact h.non q hq hqr
 ·rw [hrr q] at hqr
  obtain ⟨h1, h2, h3⟩ := h.yes q hq hqr
  rw [hsz]
  exact ⟨h1, h2, fun j hj => by rw [cell_apart w (Ne.symm h2.2.2.1)]; exact h3 j hj⟩
 ·by_cases e : q = t
  ·subst e; rw [hs] at hqh; cases hqh
  ·rw [rch_ne S d k e] at hqr hqh ⊢
   exact h.one q hq hqr hqh
theorem RAt.again (h : RAt w B ab bb n L M A C K S) {t : Nat} (ht : t ≤ n) (hr : (S t).r = true) (d : Int) (k : Nat) (hh : (S t).h = true ∨ (M t = d ∧ K t = k)) : RAt w B ab bb n L M A C K (rchS S t d k) := by
 have hsh : (rchS S t d k t).h = (S t).h ∧ (rchS S t d k t).r = true ∧ ((S t).h = false → rchS S t d k t = S t) := by
  rw [rch_at]
  unfold hungB
  rw [hr]
  cases hx : (S t).h
  ·obtain ⟨o1, o2⟩ := h.one t ht hr hx
   rcases hh with hh | ⟨h1, h2⟩
   ·rw [hh] at hx; cases hx
   ·have g1 : (S t).d = d := o1.symm.trans h1
    have g2 : (S t).k = k := o2.symm.trans h2
    refine ⟨by simp [g1, g2], rfl, fun _ => ?_⟩
    rw [← g1, ← g2]
    simp
    have : S t = ⟨(S t).d, (S t).k, (S t).r, (S t).h⟩ := rfl
    rw [this, hr, hx]
  ·exact ⟨by simp, rfl, fun e => by cases e⟩
 have hrr : ∀ q, (rchS S t d k q).r = (S q).r := fun q => by
  by_cases e : q = t
  ·subst e; rw [hsh.2.1, hr]
  ·rw [rch_ne S d k e]
 have hhh : ∀ q, (rchS S t d k q).h = (S q).h := fun q => by
  by_cases e : q = t
  ·subst e; exact hsh.1
  ·rw [rch_ne S d k e]
 refine ⟨h.many, fun q hq => by rw [hrr q]; exact h.kept q hq, fun q hq => by rw [hhh q]; exact h.bad q hq, fun q hq hqr => by rw [hrr q] at hqr; rw [hhh q]; exact h.non q hq hqr, fun q hq hqr => by rw [hrr q] at hqr; exact h.yes q hq hqr, fun q hq hqr hqh => ?_, h.la, h.lb, h.ne, h.ba, h.bb'⟩
 rw [hrr q] at hqr
 rw [hhh q] at hqh
 have := h.one q hq hqr hqh
 by_cases e : q = t
 ·subst e; rw [hsh.2.2 hqh]; exact this
 ·rw [rch_ne S d k e]; exact this
end
theorem rch_comm (S : Nat → Sp) (a b : Nat) (d : Int) (k : Nat) : rchS (rchS S a d k) b d k = rchS (rchS S b d k) a d k := by
 by_cases e : a = b
 ·subst e; rfl
 ·funext j
  by_cases ha : j = a
  ·subst ha
   rw [rch_ne _ d k e, rch_at, rch_at, rch_ne S d k e]
  ·by_cases hb : j = b
   ·subst hb
    rw [rch_at, rch_ne S d k ha, rch_ne (rchS S j d k) d k ha, rch_at]
   ·rw [rch_ne _ d k hb, rch_ne S d k ha, rch_ne _ d k ha, rch_ne S d k hb]
end Go.Proofs.YtmlpedgcpffpnaaGreatDoor
set_option linter.unusedSimpArgs false
namespace Go.Proofs.YtmlpedgcpffpnaaGreatDoor
open Go.RowKit
def rmM (l : List Bk) : Nat → Int
 | 0 => 0
 | j + 1 => if (ckS l j j).r = false then rmM l j else maxI (rmM l j) (ckS l j j).d
theorem rmM_le (l : List Bk) (i : Nat) : ∀ e, rmM l i ≤ rmM l (i + e)
 | 0 => Int.le_refl _
 | e + 1 => by
   refine Int.le_trans (rmM_le l i e) ?_
   show _ ≤ rmM l ((i + e) + 1)
   rw [rmM]
   split
   ·exact Int.le_refl _
   ·exact (maxI_ge _ _).1
theorem rmM_at (l : List Bk) {t n : Nat} (ht : t < n) (hr : (ckS l t t).r = true) : (ckS l t t).d ≤ rmM l n := by
 have h1 := rmM_le l (t + 1) (n - (t + 1))
 rw [show t + 1 + (n - (t + 1)) = n by omega] at h1
 refine Int.le_trans ?_ h1
 rw [rmM, if_neg (by rw [hr]; decide)]
 exact (maxI_ge _ _).2
theorem spot_le (l : List Bk) : ∀ j t, (ckS l j t).r = true → (ckS l j t).d ≤ ckM l j
 | 0, t, h => by
   unfold ckS rchS noS at h ⊢
   by_cases e : t = 0
   ·subst e; rw [if_pos rfl]; exact Int.le_refl _
   ·rw [if_neg e] at h; cases h
 | j + 1, t, h => by
   have ih := spot_le l j
   have hstep : ∀ S' : Nat → Sp, (∀ t, (S' t).r = true → (S' t).d ≤ stpM (ckM l j) (ckS l j) (bnth l j) j) → ∀ t' d k, d ≤ stpM (ckM l j) (ckS l j) (bnth l j) j → ∀ t, (rchS S' t' d k t).r = true → (rchS S' t' d k t).d ≤ stpM (ckM l j) (ckS l j) (bnth l j) j := by
    intro S' hS t' d k hd t ht
    by_cases e : t = t'
    ·subst e; rw [rch_at]; exact hd
    ·rw [rch_ne _ d k e] at ht ⊢; exact hS t ht
   have h0 : ∀ t, (ckS l j t).r = true → (ckS l j t).d ≤ stpM (ckM l j) (ckS l j) (bnth l j) j := fun t ht => by
    refine Int.le_trans (ih t ht) ?_
    unfold stpM
    split
    ·exact Int.le_refl _
    ·exact (maxI_ge _ _).1
   show (stpS (ckS l j) (bnth l j) j t).d ≤ stpM (ckM l j) (ckS l j) (bnth l j) j
   replace h : (stpS (ckS l j) (bnth l j) j t).r = true := h
   unfold stpS at h ⊢
   by_cases hr : (ckS l j j).r = false
   ·rw [if_pos hr] at h ⊢; exact h0 t h
   rw [if_neg hr] at h ⊢
   have hn : nxD (ckS l j j).d (bnth l j).frm.toNat ≤ stpM (ckM l j) (ckS l j) (bnth l j) j := by
    unfold stpM
    rw [if_neg hr]
    exact (maxI_ge _ _).2
   by_cases h15 : (bnth l j).frm = 15
   ·rw [if_pos h15] at h ⊢
    exact hstep _ (fun t ht => hstep _ h0 _ _ _ hn t ht) _ _ _ hn t h
   ·rw [if_neg h15] at h ⊢
    exact hstep _ h0 _ _ _ hn t h
theorem reach_end {l : List Bk} {lines : Int} {n1 n2 n3 : Nat} (hs : firstE (ckE l lines n1 n2 n3) l.length = 0) : (ckS l l.length l.length).r = true := by
 have key : ∀ m, m ≤ l.length → ∃ t, m ≤ t ∧ t ≤ l.length ∧ (ckS l t t).r = true := by
  intro m
  induction m with
  | zero => intro _; exact ⟨0, Nat.le_refl _, Nat.zero_le _, rfl⟩
  | succ m ih =>
    intro hm
    obtain ⟨t, h1, h2, h3⟩ := ih (by omega)
    by_cases e : t = m
    ·subst e
     have hok := stpE_ok (firstE_zeroK2 hs t (by omega))
     have hfar := fits_far hok.2.1 (show t < l.length by omega)
     have hg : Good (toN (bnth l t) t) (nxD (ckS l t t).d (bnth l t).frm.toNat) (ckS l (t + 1)) := stp_far h3
     have hlt : t + 1 ≤ toN (bnth l t) t ∧ toN (bnth l t) t ≤ l.length := by unfold toN; omega
     have hg2 := hg.ck (toN (bnth l t) t - (t + 1))
     rw [show t + 1 + (toN (bnth l t) t - (t + 1)) = toN (bnth l t) t by omega] at hg2
     exact ⟨_, hlt.1, hlt.2, hg2.1⟩
    ·exact ⟨t, by omega, h2, h3⟩
 obtain ⟨t, h1, h2, h3⟩ := key l.length (Nat.le_refl _)
 have : t = l.length := by omega
 subst this
 exact h3
theorem most_same {l : List Bk} {lines : Int} {n1 n2 n3 : Nat} (hp : Pass l lines n1 n2 n3) : rmM l l.length = ckM l l.length := by
 have h1 : ∀ j, j ≤ l.length → rmM l j ≤ ckM l l.length := by
  intro j
  induction j with
  | zero => intro _; exact (ckM_20000 hp l.length (Nat.le_refl _)).1
  | succ j ih =>
    intro hj
    have := ih (by omega)
    rw [rmM]
    split
    ·exact this
    ·rename_i hr
     have hr' : (ckS l j j).r = true := by simpa using hr
     have h2 := spot_le l j j hr'
     have h3 := ckM_le l j (l.length - j)
     rw [show j + (l.length - j) = l.length by omega] at h3
     unfold maxI
     split <;> omega
 have h2 : ∀ j, j ≤ l.length → ckM l j ≤ rmM l l.length := by
  intro j
  induction j with
  | zero =>
    intro _
    have := rmM_le l 0 l.length
    rw [Nat.zero_add] at this
    exact this
  | succ j ih =>
    intro hj
    have := ih (by omega)
    show stpM _ _ _ _ ≤ _
    unfold stpM
    split
    ·exact this
    ·rename_i hr
     have hr' : (ckS l j j).r = true := by simpa using hr
     obtain ⟨t1, t2, t3, t4, t5⟩ := inv_to hp (show j < l.length by omega) hr' (.inl rfl)
     have hd : nxD (ckS l j j).d (bnth l j).frm.toNat ≤ rmM l l.length := by
      rw [← t5]
      by_cases e : toN (bnth l j) j < l.length
      ·exact rmM_at l e t3
      ·have e2 : toN (bnth l j) j = l.length := by omega
       rw [e2]
       have hfin := hp.fin
       unfold ckEnd at hfin
       simp at hfin
       rw [hfin.2.1]
       have := rmM_le l 0 l.length
       rw [Nat.zero_add] at this
       exact this
     unfold maxI
     split <;> omega
 have := h1 l.length (Nat.le_refl _)
 have := h2 l.length (Nat.le_refl _)
 omega
end Go.Proofs.YtmlpedgcpffpnaaGreatDoor
set_option linter.unusedSimpArgs false
namespace Go.Proofs.YtmlpedgcpffpnaaGreatDoor
open Go.RowKit
theorem info_ly : (Tryz.prog.info? 72).map (fun i => (i.zero, i.size, i.bytes)) = some (some (.agg #[.int .i64 0, .slice none 0 0]), 2, 32) := by kernel_rfl
theorem info_bl : (Tryz.prog.info? 4).map (fun i => (i.zero, i.size, i.bytes)) = some (some (.bool false), 1, 1) := by kernel_rfl
theorem make_lys (n : Nat) (h : n ≤ 10000) (w : World) : (Instr.makeSlice 69 (.int .i64 ((n : Int) + 1)) (.int .i64 ((n : Int) + 1))).run Tryz.prog w = .ok (.slice (some ⟨w.heap.size, 0, none⟩) (n + 1) (n + 1)) (w.alloc (.cells (madeCells #[.int .i64 0, .slice none 0 0] ((n + 1) * 2)) 72)) := by
 obtain ⟨i0, hi, hz0, hz1, hz2⟩ := info_parts info_ly
 have := run_make (P := Tryz.prog) w 69 72 i0 _ Tryz.underlying69 hi hz0 .i64 .i64 ((n : Int) + 1) ((n : Int) + 1) (by omega) (by omega) (by rw [hz2]; omega) (by omega)
 rw [hz1, show ((n : Int) + 1).toNat = n + 1 by omega] at this
 exact this
theorem make_bls (n : Nat) (h : n ≤ 10001) (w : World) : (Instr.makeSlice 70 (.int .i64 (n : Int)) (.int .i64 (n : Int))).run Tryz.prog w = .ok (.slice (some ⟨w.heap.size, 0, none⟩) n n) (w.alloc (.cells (madeCells #[.bool false] n) 4)) := by
 obtain ⟨i0, hi, hz0, hz1, hz2⟩ := info_parts info_bl
 have := run_make (P := Tryz.prog) w 70 4 i0 (.bool false) Tryz.underlying70 hi hz0 .i64 .i64 n n (by omega) (by omega) (by rw [hz2]; omega) (by omega)
 rw [hz1, Nat.mul_one] at this
 exact this
theorem made_bls (w : World) (n : Nat) (T : TypeId) : ∀ j, j < n → (w.alloc (.cells (madeCells #[.bool false] n) T)).cell? ⟨w.heap.size, j, none⟩ = some (.bool false) ∧ (w.alloc (.cells (madeCells #[.bool false] n) T)).frozen? ⟨w.heap.size, j, none⟩ = false := by
 intro j hj
 refine ⟨?_, by simp⟩
 have hc : (madeCells #[.bool false] n)[j]? = some (.bool false) := by
  simp only [madeCells, Array.getElem?_map]
  rw [Array.getElem?_eq_getElem (by simpa using hj)]
  simp [Nat.mod_one]
 generalize (madeCells #[.bool false] n) = X at *
 simp [hc]
structure IniAt (w : World) (B ab bb n j : Nat) : Prop where
 many : ∀ t, t ≤ n → w.cell? ⟨ab, t * 2, none⟩ = some (.int .i64 (if t < j then -1 else 0)) ∧ w.frozen? ⟨ab, t * 2, none⟩ = false ∧ w.frozen? ⟨ab, t * 2 + 1, none⟩ = false
 kept : ∀ t, t ≤ n → w.cell? ⟨ab, t * 2 + 1, none⟩ = some (.slice none 0 0)
 bad : ∀ t, t ≤ n → w.cell? ⟨bb, t, none⟩ = some (.bool false) ∧ w.frozen? ⟨bb, t, none⟩ = false
 la : ab < w.heap.size
 lb : bb < w.heap.size
 ne : ab ≠ bb
 ba : B ≤ ab
 bb' : B ≤ bb
theorem ini_made (w : World) (n : Nat) (T U : TypeId) : IniAt ((w.alloc (.cells (madeCells #[.int .i64 0, .slice none 0 0] ((n + 1) * 2)) T)).alloc (.cells (madeCells #[.bool false] (n + 1)) U)) w.heap.size w.heap.size (w.heap.size + 1) n 0 := by
 have s1 : (w.alloc (.cells (madeCells #[.int .i64 0, .slice none 0 0] ((n + 1) * 2)) T)).heap.size = w.heap.size + 1 := by simp
 have hb := kbelow_box (w.alloc (.cells (madeCells #[.int .i64 0, .slice none 0 0] ((n + 1) * 2)) T)) (.cells (madeCells #[.bool false] (n + 1)) U)
 have hm := made_bls (w.alloc (.cells (madeCells #[.int .i64 0, .slice none 0 0] ((n + 1) * 2)) T)) (n + 1) U
 rw [s1] at hm
 have hc : ∀ q r, q ≤ n → r < 2 → (w.alloc (.cells (madeCells #[.int .i64 0, .slice none 0 0] ((n + 1) * 2)) T)).cell? ⟨w.heap.size, q * 2 + r, none⟩ = (#[.int .i64 0, .slice none 0 0] : Array Value)[r]? := by
  intro q r hq hr
  have h1 : q * 2 + r < (n + 1) * 2 := by omega
  have h2 : (q * 2 + r) % 2 = r := by omega
  have h3 : (madeCells #[.int .i64 0, .slice none 0 0] ((n + 1) * 2))[q * 2 + r]? = some ((#[.int .i64 0, .slice none 0 0] : Array Value)[(q * 2 + r) % 2]!) := by
   simp only [madeCells, Array.getElem?_map]
   rw [Array.getElem?_eq_getElem (by simpa using h1)]
   simp
  have h4 : (#[.int .i64 0, .slice none 0 0] : Array Value)[r]? = some ((#[.int .i64 0, .slice none 0 0] : Array Value)[r]!) := by
   have : r = 0 ∨ r = 1 := by omega
   rcases this with rfl | rfl <;> rfl
  rw [h2] at h3
  rw [h4]
  generalize (madeCells #[.int .i64 0, .slice none 0 0] ((n + 1) * 2)) = X at *
  simp [h3]
 have hl : w.heap.size < (w.alloc (.cells (madeCells #[.int .i64 0, .slice none 0 0] ((n + 1) * 2)) T)).heap.size := by rw [s1]; omega
 refine ⟨fun t ht => ⟨?_, ?_, ?_⟩, fun t ht => ?_, fun t ht => hm t (by omega), by have := hb.size; omega, by simp, by omega, Nat.le_refl _, by omega⟩
 ·rw [hb.cell (p := ⟨w.heap.size, t * 2, none⟩) hl, if_neg (by omega)]
  exact hc t 0 ht (by omega)
 ·rw [hb.frozen (p := ⟨w.heap.size, t * 2, none⟩) hl]; simp
 ·rw [hb.frozen (p := ⟨w.heap.size, t * 2 + 1, none⟩) hl]; simp
 ·rw [hb.cell (p := ⟨w.heap.size, t * 2 + 1, none⟩) hl]
  exact hc t 1 ht (by omega)
theorem IniAt.step {w : World} {B ab bb n j : Nat} (h : IniAt w B ab bb n j) (hj : j ≤ n) : IniAt (w.setCell ⟨ab, j * 2, none⟩ (.int .i64 (-1))) B ab bb n (j + 1) := by
 have e0 := (h.many j hj).1
 refine ⟨fun t ht => ⟨?_, by rw [World.frozen?_setCell]; exact (h.many t ht).2.1, by rw [World.frozen?_setCell]; exact (h.many t ht).2.2⟩, fun t ht => by rw [put_cell e0, if_neg (by omega)]; exact h.kept t ht, fun t ht => by rw [cell_apart w h.ne, World.frozen?_setCell]; exact h.bad t ht, by simpa using h.la, by simpa using h.lb, h.ne, h.ba, h.bb'⟩
 rw [put_cell e0]
 by_cases e : t = j
 ·subst e; rw [if_pos rfl, if_pos (by omega)]
 ·rw [if_neg (by omega), (h.many t ht).1]
  by_cases hlt : t < j
  ·rw [if_pos hlt, if_pos (by omega)]
  ·rw [if_neg hlt, if_neg (by omega)]
theorem IniAt.done {w : World} {B ab bb n : Nat} (h : IniAt w B ab bb n (n + 1)) (L : Nat) : RAt w B ab bb n L (fun _ => -1) (fun _ => 0) (fun _ => 0) (fun _ => 0) noS :=
 ⟨fun t ht => ⟨by have := (h.many t ht).1; rwa [if_pos (by omega)] at this, (h.many t ht).2⟩, fun t ht => h.kept t ht, fun t ht => h.bad t ht, fun _ _ _ => ⟨by decide, rfl⟩, fun _ _ hr => Bool.noConfusion (show false = true from hr), fun _ _ hr => Bool.noConfusion (show false = true from hr), h.la, h.lb, h.ne, h.ba, h.bb'⟩
theorem wo_stp (S : Nat → Sp) (o : Bk) (lines : Int) (n1 n2 n3 n at_ : Nat) : (woE o.frm o.rate lines n1 n2 n3 n at_ ≠ 0 → stpE S o lines n1 n2 n3 n at_ = woE o.frm o.rate lines n1 n2 n3 n at_) ∧ (woE o.frm o.rate lines n1 n2 n3 n at_ = 0 → (1 ≤ o.frm ∧ o.frm ≤ 16) ∧ fitsB o.frm o.rate lines n1 n2 n3 n at_ = true ∧ stpE S o lines n1 n2 n3 n at_ = if (S at_).r = false then 0 else if (S at_).h = true then 4 else if allowB (S at_).d (S at_).k o.frm.toNat o.rate = false then 4 else 0) := by
 unfold woE stpE
 by_cases h1 : o.frm < 1 ∨ 16 < o.frm
 ·rw [if_pos h1, if_pos h1]
  exact ⟨fun _ => rfl, fun h => by omega⟩
 rw [if_neg h1, if_neg h1]
 by_cases h2 : fitsB o.frm o.rate lines n1 n2 n3 n at_ = false
 ·rw [if_pos h2, if_pos h2]
  exact ⟨fun _ => rfl, fun h => by omega⟩
 rw [if_neg h2, if_neg h2]
 exact ⟨fun h => absurd rfl h, fun _ => ⟨by omega, by simpa using h2, rfl⟩⟩
end Go.Proofs.YtmlpedgcpffpnaaGreatDoor
set_option linter.unusedSimpArgs false
namespace Go.Proofs.YtmlpedgcpffpnaaGreatDoor
open Go.RowKit
theorem info_int4 : (Tryz.prog.info? 3).map (fun i => (i.zero, i.size, i.bytes)) = some (some (.int .i64 0), 1, 8) := by kernel_rfl
def KbAt (w : World) (kb L k : Nat) : Prop := kb < w.heap.size ∧ ∀ q, q < L → w.cell? ⟨kb, q, none⟩ = some (.bool (k.testBit q)) ∧ w.frozen? ⟨kb, q, none⟩ = false
theorem KbAt.below {w w' : World} {kb L k : Nat} (h : KbAt w kb L k) (hb : Below w.heap.size w w') : KbAt w' kb L k :=
 ⟨Nat.lt_of_lt_of_le h.1 hb.size, fun q hq => ⟨(hb.cell (p := ⟨kb, q, none⟩) h.1).trans (h.2 q hq).1, (hb.frozen (p := ⟨kb, q, none⟩) h.1).trans (h.2 q hq).2⟩⟩
theorem app_kept (V : World) (eb A L C k : Nat) (hL : L ≤ 40) (hc : ∀ q, q < L → V.cell? ⟨A, q, none⟩ = some (.bool (k.testBit q))) (he : eb < V.heap.size) :
 ∃ kb c V', (Builtin.append_ #[70, 70] 70 #[.slice (some ⟨eb, 0, none⟩) 0 0, .slice (some ⟨A, 0, none⟩) L C]).run Tryz.prog V = .ok (.slice (some ⟨kb, 0, none⟩) L c) V' ∧ Below V.heap.size V V' ∧ (kb = eb ∨ V.heap.size ≤ kb) ∧ KbAt V' kb L k := by
 obtain ⟨i0, hi, hz0, hz1, hz2⟩ := info_parts info_bl
 by_cases h0 : L = 0
 ·subst h0
  have := run_append_room_cells (P := Tryz.prog) V 70 70 4 i0 Tryz.underlying70 hi eb 0 0 0 ⟨A, 0, none⟩ 0 C [] (by simp) (by intro j u hj; simp at hj) (by intro u hu; simp at hu) (Nat.le_refl _) (by intro j hj; simp at hj) (by intro j hj; simp at hj)
  refine ⟨eb, 0, V, this, Below.refl _ _, .inl rfl, he, fun q hq => absurd hq (Nat.not_lt_zero _)⟩
 ·have hl : ((List.range L).map fun q => Value.bool (k.testBit q)).length = L := by simp
  have hat : ∀ j u, ((List.range L).map fun q => Value.bool (k.testBit q))[j]? = some u → V.cell? ((⟨A, 0, none⟩ : Addr).add j) = some u := by
   intro j u hj
   have hjl : j < L := by
    by_cases h : j < L
    ·exact h
    ·rw [List.getElem?_eq_none (by simp; omega)] at hj; cases hj
   simp [hjl] at hj
   subst hj
   rw [Addr.add_lit, Nat.zero_add]
   exact hc j hjl
  obtain ⟨v', V', hrun, hown, hgr⟩ := run_append_arg_grows (P := Tryz.prog) V 70 70 4 i0 (.bool false) 1 1 Tryz.underlying70 hi hz0 hz1 hz2 rfl (by decide) ⟨eb, 0, none⟩ 0 0 [] rfl (by intro j u hj; simp at hj) ⟨A, 0, none⟩ L C ((List.range L).map fun q => Value.bool (k.testBit q)) (by rw [hl]; omega) hat (by omega) (by unfold maxLen; omega) (by omega)
  simp only [List.nil_append, Nat.zero_add] at hown
  have hb : Below V.heap.size V V' := (Below.refl V.heap.size V).grown hgr (Nat.le_refl _) (fun k hk => by cases hk)
  have hh := hown
  rcases hown.2 with ⟨_, h2⟩ | ⟨g, c, cur, rfl, hg, _⟩
  ·omega
  ·refine ⟨g, c, V', hrun, hb, .inr hg, (hh.lt g rfl).2, fun q hq => ⟨?_, ?_⟩⟩
   ·have := World.ownsRow.cells hh (g := g) rfl q (.bool (k.testBit q)) (by simp [hq])
    rwa [Addr.add_lit, Nat.zero_add] at this
   ·have := World.ownsRow.frozenAt hh q
    exact this
theorem kb_ge {B eb kb s : Nat} (h : kb = eb ∨ s ≤ kb) (h1 : B ≤ eb) (h2 : B ≤ s) : B ≤ kb := by omega
theorem kb_ne {g eb kb s : Nat} (h : kb = eb ∨ s ≤ kb) (h1 : g ≠ eb) (h2 : g < s) : g ≠ kb := by omega
structure NxAt (w : World) (B g kb L c : Nat) (d : Int) (k : Nat) : Prop where
 bx : Cbx w g [.int .i64 d, .slice (some ⟨kb, 0, none⟩) L c]
 kp : KbAt w kb L k
 bg : B ≤ g
 bk : B ≤ kb
 ne : g ≠ kb
theorem NxAt.below {w w' : World} {B g kb L c : Nat} {d : Int} {k : Nat} (h : NxAt w B g kb L c d k) (hb : Below w.heap.size w w') : NxAt w' B g kb L c d k := ⟨h.bx.below hb h.bx.lt, h.kp.below hb, h.bg, h.bk, h.ne⟩
theorem step_app_bl {ops : Array Oper} {o : Oper} {a : Act} {K : Act → World → Prop} {Q : Exit → Act → World → Prop} {E : Prop} (w w' : World) (hgd : o.guard = none) (s x : Operand)
 (ho : o.op = .call { callee := .builtin .append, args := #[s, x], argTypes := #[70, 70] }) (hty : o.type = 70) (v1 v2 v : Value) (hs : a.eval s = v1) (hx : a.eval x = v2)
 (hr : (Builtin.append_ #[70, 70] 70 #[v1, v2]).run Tryz.prog w = .ok v w') (h : K (a.put o.dst v) w') :
 if Region.wanted o (yielded ops a.tmps) = true then Oper.wp Tryz.prog o a w K Q else E := by
 have hw : Region.wanted o (yielded ops a.tmps) = true := by simp [Region.wanted, hgd]
 rw [if_pos hw]
 unfold Oper.wp execOp
 simp only [ho, hty, resolve, invoke, builtin, Sem.run_bind, Sem.run_pure, Result.andThen_ok, List.map_toArray, List.map_cons, List.map_nil, hs, hx, hr]
 exact h
theorem KbAt.apart {w : World} {kb L k b i : Nat} (h : KbAt w kb L k) (hne : b ≠ kb) (v : Value) : KbAt (w.setCell ⟨b, i, none⟩ v) kb L k :=
 ⟨by simpa using h.1, fun q hq => by rw [cell_apart w hne, World.frozen?_setCell]; exact h.2 q hq⟩
theorem KbAt.keep {w : World} {kb L k z : Nat} (h : KbAt w kb L k) (hz : z < L) : KbAt (w.setCell ⟨kb, z, none⟩ (.bool true)) kb L (k ||| 2 ^ z) := by
 refine ⟨by simpa using h.1, fun q hq => ?_⟩
 rw [put_cell (h.2 z hz).1, World.frozen?_setCell]
 refine ⟨?_, (h.2 q hq).2⟩
 rw [Nat.testBit_or, Nat.testBit_two_pow]
 by_cases e : q = z
 ·subst e; simp
 ·rw [if_neg e, (h.2 q hq).1]
  have : decide (z = q) = false := decide_eq_false (fun h => e h.symm)
  rw [this, Bool.or_false]
theorem NxAt.made {w : World} {B g kb L c : Nat} {k : Nat} (hg : Cbx w g [.int .i64 0, .slice none 0 0]) (hk : KbAt w kb L k) (bg : B ≤ g) (bk : B ≤ kb) (ne : g ≠ kb) (d : Int) :
 NxAt ((w.setCell ⟨g, 0, none⟩ (.int .i64 d)).setCell ⟨g, 1, none⟩ (.slice (some ⟨kb, 0, none⟩) L c)) B g kb L c d k :=
 ⟨cbx_set (cbx_set hg (.int .i64 d) (i := 0) (by simp)) (.slice (some ⟨kb, 0, none⟩) L c) (i := 1) (by simp), (hk.apart ne _).apart ne _, bg, bk, ne⟩
theorem NxAt.keep {w : World} {B g kb L c z : Nat} {d : Int} {k : Nat} (h : NxAt w B g kb L c d k) (hz : z < L) : NxAt (w.setCell ⟨kb, z, none⟩ (.bool true)) B g kb L c d (k ||| 2 ^ z) :=
 ⟨h.bx.to (Below.heap_setCell w ⟨kb, z, none⟩ _ g h.ne), h.kp.keep hz, h.bg, h.bk, h.ne⟩
theorem NxAt.aside {w : World} {B g kb L c b i : Nat} {d : Int} {k : Nat} (h : NxAt w B g kb L c d k) (hb : b < B) (v : Value) : NxAt (w.setCell ⟨b, i, none⟩ v) B g kb L c d k :=
 ⟨h.bx.to (Below.heap_setCell w ⟨b, i, none⟩ _ g (show g ≠ b by have := h.bg; omega)), h.kp.apart (by have := h.bk; omega) v, h.bg, h.bk, h.ne⟩
def ToAt (w : World) (B tb m : Nat) (T : Nat → Nat) : Prop := B ≤ tb ∧ tb < w.heap.size ∧ ∀ e, e < m → w.cell? ⟨tb, e, none⟩ = some (.int .i64 (T e : Int))
theorem ToAt.below {w w' : World} {B tb m : Nat} {T : Nat → Nat} (h : ToAt w B tb m T) (hb : Below w.heap.size w w') : ToAt w' B tb m T := ⟨h.1, Nat.lt_of_lt_of_le h.2.1 hb.size, fun e he => (hb.cell (p := ⟨tb, e, none⟩) h.2.1).trans (h.2.2 e he)⟩
theorem ToAt.aside {w : World} {B tb m b i : Nat} {T : Nat → Nat} (h : ToAt w B tb m T) (hb : b < B) (v : Value) : ToAt (w.setCell ⟨b, i, none⟩ v) B tb m T := ⟨h.1, by simpa using h.2.1, fun e he => by rw [cell_apart w (show b ≠ tb by have := h.1; omega)]; exact h.2.2 e he⟩
theorem ToAt.one (w : World) (B t : Nat) (T : TypeId) (hB : B ≤ w.heap.size) : ToAt (w.alloc (.cells #[.int .i64 (t : Int)] T)) B w.heap.size 1 (fun _ => t) :=
 ⟨hB, by simp, fun e he => by obtain rfl : e = 0 := by omega
                              exact (Cbx.made w [.int .i64 (t : Int)] T).at 0 rfl⟩
theorem app_two (V : World) (ta tc t1 t2 : Nat) (h1 : V.cell? ⟨ta, 0, none⟩ = some (.int .i64 (t1 : Int))) (h2 : V.cell? ⟨tc, 0, none⟩ = some (.int .i64 (t2 : Int))) :
 ∃ tb c V', (Builtin.append_ #[35, 35] 35 #[.slice (some ⟨ta, 0, none⟩) 1 1, .slice (some ⟨tc, 0, none⟩) 1 1]).run Tryz.prog V = .ok (.slice (some ⟨tb, 0, none⟩) 2 c) V' ∧ Below V.heap.size V V' ∧ ToAt V' V.heap.size tb 2 (fun e => if e = 0 then t1 else t2) := by
 obtain ⟨i0, hi, hz0, hz1, hz2⟩ := info_parts info_int4
 obtain ⟨v', V', hrun, hown, hgr⟩ := run_append_arg_grows (P := Tryz.prog) V 35 35 3 i0 (.int .i64 0) 1 8 Tryz.underlying35 hi hz0 hz1 hz2 rfl (by decide) ⟨ta, 0, none⟩ 1 1 [.int .i64 (t1 : Int)] rfl (by
  intro j u hj
  match j, hj with
  | 0, hj => simp at hj; subst hj; simpa [Addr.add] using h1) ⟨tc, 0, none⟩ 1 1 [.int .i64 (t2 : Int)] rfl (by
  intro j u hj
  match j, hj with
  | 0, hj => simp at hj; subst hj; simpa [Addr.add] using h2) (by omega) (by unfold maxLen; omega) (by omega)
 have hh := hown
 rcases hown.2 with ⟨_, h2⟩ | ⟨g, c, cur, rfl, hg, _⟩
 ·omega
 ·refine ⟨g, c, V', hrun, (Below.refl V.heap.size V).grown hgr (Nat.le_refl _) (fun k hk => by cases hk), hg, (hh.lt g rfl).2, fun e he => ?_⟩
  have hc : e = 0 ∨ e = 1 := by omega
  rcases hc with rfl | rfl
  ·have := World.ownsRow.cells hh (g := g) rfl 0 (.int .i64 (t1 : Int)) rfl
   rwa [Addr.add_lit, Nat.zero_add] at this
  ·have := World.ownsRow.cells hh (g := g) rfl 1 (.int .i64 (t2 : Int)) rfl
   rwa [Addr.add_lit, Nat.zero_add] at this
def rchN (S : Nat → Sp) (T : Nat → Nat) (d : Int) (k : Nat) : Nat → (Nat → Sp)
 | 0 => S
 | e + 1 => rchS (rchN S T d k e) (T e) d k
theorem stp_one {S : Nat → Sp} {o : Bk} {at_ : Nat} (hr : (S at_).r = true) (h15 : o.frm ≠ 15) : stpS S o at_ = rchN S (fun _ => toN o at_) (nxD (S at_).d o.frm.toNat) (nxK (S at_).k o.frm.toNat o.rate) 1 := by
 unfold stpS
 rw [if_neg (by rw [hr]; decide), if_neg h15]
 rfl
theorem stp_two {S : Nat → Sp} {o : Bk} {at_ : Nat} (hr : (S at_).r = true) (h15 : o.frm = 15) : stpS S o at_ = rchN S (fun e => if e = 0 then at_ + 1 else toN o at_) (nxD (S at_).d o.frm.toNat) (nxK (S at_).k o.frm.toNat o.rate) 2 := by
 unfold stpS
 rw [if_neg (by rw [hr]; decide), if_pos h15]
 unfold nxS
 rw [rch_comm]
 rfl
theorem nxK_pow {k q L : Nat} {z : Int} (hk : k < 2 ^ L) (hz : q = 16 → 0 ≤ z ∧ z < (L : Int)) : nxK k q z < 2 ^ L := by
 unfold nxK
 split
 ·rename_i h
  have := hz h
  exact Nat.or_lt_two_pow hk (Nat.pow_lt_pow_right (by omega) (by omega))
 ·exact hk
def allB (b0 : Bool) (k : Nat) : Nat → Bool
 | 0 => b0
 | u + 1 => allB b0 k u && k.testBit u
theorem allB_iff (b0 : Bool) (k : Nat) : ∀ u, allB b0 k u = true ↔ b0 = true ∧ ∀ p, p < u → k.testBit p = true
 | 0 => by simp [allB]
 | u + 1 => by
   rw [allB, Bool.and_eq_true, allB_iff b0 k u]
   constructor
   ·rintro ⟨⟨h1, h2⟩, h3⟩
    refine ⟨h1, fun p hp => ?_⟩
    by_cases e : p = u
    ·subst e; exact h3
    ·exact h2 p (by omega)
   ·rintro ⟨h1, h2⟩
    exact ⟨⟨h1, fun p hp => h2 p (by omega)⟩, h2 u (by omega)⟩
theorem all_end {k L : Nat} {d : Int} (hk : k < 2 ^ L) : (decide (d = 0) && decide ((k : Int) = ((2 ^ L - 1 : Nat) : Int))) = allB (d == 0) k L := by
 apply Bool.eq_iff_iff.2
 rw [allB_iff, Bool.and_eq_true, decide_eq_true_eq, decide_eq_true_eq, beq_iff_eq]
 constructor
 ·rintro ⟨h1, h2⟩
  refine ⟨h1, fun p hp => ?_⟩
  have h3 : k = 2 ^ L - 1 := by omega
  rw [h3, Nat.testBit_two_pow_sub_one]
  exact decide_eq_true hp
 ·rintro ⟨h1, h2⟩
  refine ⟨h1, ?_⟩
  have hp : 0 < 2 ^ L := Nat.two_pow_pos L
  have h3 : k = 2 ^ L - 1 := bits_eq hk (by omega) fun p hp => by rw [h2 p hp, Nat.testBit_two_pow_sub_one, decide_eq_true hp]
  omega
end Go.Proofs.YtmlpedgcpffpnaaGreatDoor
