/-
  Promise J3, plain mathematics: the steps of an expression come to what it comes to; and the checker lets them pass.
  Promise J3, plain mathematics: the program of all lines: it passes, and comes to what the lines come to.
-/
import Derived.Test.YtmlpedgcpffpnaaGreatDoorKSI
import Derived.Test.YtmlpedgcpffpnaaGreatDoorKSH
import Derived.Test.YtmlpedgcpffpnaaGreatDoorKSC
set_option linter.unusedSimpArgs false
namespace Go.Proofs.YtmlpedgcpffpnaaGreatDoor
open Go.RowKit
def Seg (P : List Bk) (i : Nat) (c : List Bk) : Prop := i + c.length ≤ P.length ∧ ∀ t, t < c.length → bnth P (i + t) = bnth c t
theorem Seg.left {P : List Bk} {i : Nat} {a b : List Bk} (h : Seg P i (a ++ b)) : Seg P i a := by
 refine ⟨by have := h.1; simp at this; omega, fun t ht => ?_⟩
 rw [h.2 t (by simp; omega)]
 unfold bnth
 rw [List.getD_eq_getElem?_getD, List.getD_eq_getElem?_getD, List.getElem?_append_left ht]
theorem Seg.right {P : List Bk} {i : Nat} {a b : List Bk} (h : Seg P i (a ++ b)) : Seg P (i + a.length) b := by
 refine ⟨by have := h.1; simp at this; omega, fun t ht => ?_⟩
 rw [Nat.add_assoc, h.2 (a.length + t) (by simp; omega)]
 unfold bnth
 rw [List.getD_eq_getElem?_getD, List.getD_eq_getElem?_getD, List.getElem?_append_right (by omega), Nat.add_sub_cancel_left]
theorem Seg.head {P : List Bk} {i : Nat} {o : Bk} {b : List Bk} (h : Seg P i (o :: b)) : i < P.length ∧ bnth P i = o := by
 refine ⟨by have := h.1; simp at this; omega, ?_⟩
 have := h.2 0 (by simp)
 rw [Nat.add_zero] at this
 rw [this]
 rfl
theorem Seg.tail {P : List Bk} {i : Nat} {o : Bk} {b : List Bk} (h : Seg P i (o :: b)) : Seg P (i + 1) b := by
 have h2 : Seg P i ([o] ++ b) := h
 exact h2.right
theorem MReach.trans {kn : Kn} {P : List Bk} {a b c : MS} (h1 : MReach kn P a b) (h2 : MReach kn P b c) : MReach kn P a c := by
 induction h2 with
 | refl => exact h1
 | step _ k2 k3 ih => exact .step ih k2 k3
def Comes (kn : Kn) (P : List Bk) (s : MS) (e : Nat) : Option Int → Prop
 | some r => ∃ Q : Nat → Int, (∀ j, j < s.m → Q j = s.P j) ∧ Q s.m = r ∧ MReach kn P s ⟨e, s.m + 1, Q, s.V⟩
 | none => ∃ t, MReach kn P s t ∧ t.at_ < P.length ∧ mstep kn (bnth P t.at_) t = none
theorem mstep_lay (kn : Kn) (q : Nat) (z : Int) (s : MS) (hq : q ≤ 13) : mstep kn ⟨(q : Int), z⟩ s = (rkO kn s.V q z (opA q s) (opB q s)).map fun r => ⟨s.at_ + 1, s.m - tkN q + 1, updF s.P (s.m - tkN q) r, s.V⟩ := by
 unfold mstep
 simp only [Int.toNat_natCast]
 rw [if_neg (by omega), if_neg (by omega), if_neg (by omega)]
theorem mcomes_lay {kn : Kn} {P : List Bk} {s : MS} {q : Nat} {z : Int} (hq : q ≤ 13) (hP : s.at_ < P.length ∧ bnth P s.at_ = ⟨(q : Int), z⟩) {r : Option Int} (hr : rkO kn s.V q z (opA q s) (opB q s) = r) :
 (∀ v, r = some v → MReach kn P s ⟨s.at_ + 1, s.m - tkN q + 1, updF s.P (s.m - tkN q) v, s.V⟩) ∧ (r = none → mstep kn (bnth P s.at_) s = none) := by
 have h := mstep_lay kn q z s hq
 rw [hr] at h
 refine ⟨fun v hv => ?_, fun hv => ?_⟩
 ·subst hv
  exact .step (.refl _) hP.1 (by rw [hP.2]; exact h)
 ·subst hv
  rw [hP.2]
  exact h
theorem mcomes_one {kn : Kn} {P : List Bk} {s : MS} {e : Nat} {a : Option Int} (h0 : Comes kn P s e a) {q : Nat} {z : Int} (hq : q ≤ 13) (ht : tkN q = 1) (hP : e < P.length ∧ bnth P e = ⟨(q : Int), z⟩) (g : Int → Option Int) (hg : ∀ x y, rkO kn s.V q z x y = g x) :
 Comes kn P s (e + 1) (a.bind g) := by
 cases a with
 | none => exact h0
 | some x =>
   obtain ⟨Q, h1, h2, h3⟩ := h0
   show Comes kn P s (e + 1) (g x)
   have hA : opA q ⟨e, s.m + 1, Q, s.V⟩ = x := by
    unfold opA
    rw [if_neg (by omega), ht]
    simpa using h2
   have h4 := mcomes_lay (kn := kn) (s := ⟨e, s.m + 1, Q, s.V⟩) hq hP (hg _ _)
   rw [hA] at h4
   cases hx : g x with
   | none => exact ⟨_, h3, hP.1, h4.2 hx⟩
   | some v =>
     have h5 := h3.trans (h4.1 v hx)
     rw [ht] at h5
     refine ⟨updF Q s.m v, fun j hj => by unfold updF; rw [if_neg (by omega)]; exact h1 j hj, by unfold updF; rw [if_pos rfl], ?_⟩
     simpa using h5
theorem mcomes_two {kn : Kn} {P : List Bk} {s : MS} {e e1 : Nat} {a b : Option Int} (h0 : Comes kn P s e a) (h1 : ∀ x, a = some x → ∀ Q : Nat → Int, Comes kn P ⟨e, s.m + 1, Q, s.V⟩ e1 b) {q : Nat} {z : Int} (hq : q ≤ 13) (ht : tkN q = 2) (hP : e1 < P.length ∧ bnth P e1 = ⟨(q : Int), z⟩) (g : Int → Int → Option Int) (hg : ∀ x y, rkO kn s.V q z x y = g x y) :
 Comes kn P s (e1 + 1) (a.bind fun x => b.bind fun y => g x y) := by
 cases a with
 | none => exact h0
 | some x =>
   obtain ⟨Q, i1, i2, i3⟩ := h0
   have h1' := h1 x rfl Q
   cases b with
   | none =>
     obtain ⟨t, k1, k2, k3⟩ := h1'
     exact ⟨t, i3.trans k1, k2, k3⟩
   | some y =>
     obtain ⟨Q2, j1, j2, j3⟩ := h1'
     show Comes kn P s (e1 + 1) (g x y)
     have hA : opA q ⟨e1, s.m + 1 + 1, Q2, s.V⟩ = x := by
      unfold opA
      rw [if_neg (by omega), ht]
      have := j1 s.m (by simp)
      simp only [Nat.add_sub_cancel] at this ⊢
      rw [show s.m + 1 + 1 - 2 = s.m by omega, this]
      exact i2
     have hB : opB q ⟨e1, s.m + 1 + 1, Q2, s.V⟩ = y := by
      unfold opB
      rw [if_pos ht]
      show Q2 (s.m + 1 + 1 - 2 + 1) = y
      rw [show s.m + 1 + 1 - 2 + 1 = s.m + 1 by omega]
      exact j2
     have h4 := mcomes_lay (kn := kn) (s := ⟨e1, s.m + 1 + 1, Q2, s.V⟩) hq hP (hg _ _)
     rw [hA, hB] at h4
     cases hx : g x y with
     | none => exact ⟨_, i3.trans j3, hP.1, h4.2 hx⟩
     | some v =>
       have h5 := (i3.trans j3).trans (h4.1 v hx)
       rw [ht] at h5
       refine ⟨updF Q2 s.m v, fun j hj => ?_, by unfold updF; rw [if_pos rfl], ?_⟩
       ·unfold updF
        rw [if_neg (by omega), j1 j (by simp only []; omega)]
        exact i1 j hj
       ·simp only [] at h5
        rw [show s.m + 1 + 1 - 2 = s.m by omega] at h5
        exact h5
theorem mcomes_leaf {kn : Kn} {P : List Bk} {s : MS} {q : Nat} {z v : Int} (hq : q ≤ 13) (ht : tkN q = 0) (hP : s.at_ < P.length ∧ bnth P s.at_ = ⟨(q : Int), z⟩) (hr : ∀ x y, rkO kn s.V q z x y = some v) : Comes kn P s (s.at_ + 1) (some v) := by
 have h := (mcomes_lay hq hP (hr _ _)).1 v rfl
 rw [ht] at h
 exact ⟨updF s.P s.m v, fun j hj => by unfold updF; rw [if_neg (by omega)], by unfold updF; rw [if_pos rfl], h⟩
theorem mcomes_if {kn : Kn} {P : List Bk} {s : MS} {e e1 e2 e3 : Nat} {a b c d : Option Int} {n zz : Int} (h0 : Comes kn P s e a) (h1 : ∀ Q : Nat → Int, Comes kn P ⟨e, s.m + 1, Q, s.V⟩ e1 b)
 (hT : e1 < P.length ∧ bnth P e1 = ⟨15, zz⟩) (hn : zz.tmod 4 = n) (hf : e1 + 1 + (furI 15 zz).toNat = e2 + 1) (h2 : ∀ Q : Nat → Int, Comes kn P ⟨e1 + 1, s.m, Q, s.V⟩ e2 c)
 (hJ : e2 < P.length ∧ bnth P e2 = ⟨14, ((e3 - (e2 + 1) : Nat) : Int)⟩) (he3 : e2 + 1 ≤ e3) (h3 : ∀ Q : Nat → Int, Comes kn P ⟨e2 + 1, s.m, Q, s.V⟩ e3 d) :
 Comes kn P s e3 (a.bind fun x => b.bind fun y => if holdB n x y = true then c else d) := by
 cases a with
 | none => exact h0
 | some x =>
   obtain ⟨Q, i1, i2, i3⟩ := h0
   have h1' := h1 Q
   cases b with
   | none =>
     obtain ⟨t, k1, k2, k3⟩ := h1'
     exact ⟨t, i3.trans k1, k2, k3⟩
   | some y =>
     obtain ⟨Q2, j1, j2, j3⟩ := h1'
     simp only [] at j1 j2 j3
     show Comes kn P s e3 (if holdB n x y = true then c else d)
     have e0 : s.m + 1 + 1 - 2 = s.m := by omega
     have hx : Q2 s.m = x := by rw [j1 s.m (by omega)]; exact i2
     have hstep : mstep kn (bnth P e1) ⟨e1, s.m + 1 + 1, Q2, s.V⟩ = some ⟨if holdB n x y = true then e1 + 1 else e2 + 1, s.m, Q2, s.V⟩ := by
      rw [hT.2]
      unfold mstep
      simp only []
      rw [if_neg (by decide), if_pos (by decide), e0, hn, hx, j2, hf]
     have hre := MReach.step (i3.trans j3) hT.1 hstep
     have hag : ∀ j, j < s.m → Q2 j = s.P j := fun j hj => (j1 j (by omega)).trans (i1 j hj)
     by_cases hh : holdB n x y = true
     ·rw [if_pos hh] at hre ⊢
      have h2' := h2 Q2
      cases c with
      | none =>
        obtain ⟨t, k1, k2, k3⟩ := h2'
        exact ⟨t, hre.trans k1, k2, k3⟩
      | some v =>
        obtain ⟨Q3, g1, g2, g3⟩ := h2'
        simp only [] at g1 g2 g3
        have hjmp : mstep kn (bnth P e2) ⟨e2, s.m + 1, Q3, s.V⟩ = some ⟨e3, s.m + 1, Q3, s.V⟩ := by
         rw [hJ.2]
         unfold mstep
         simp only []
         rw [if_pos (by decide)]
         have : e2 + 1 + (furI 14 ((e3 - (e2 + 1) : Nat) : Int)).toNat = e3 := by unfold furI; rw [if_pos rfl, Int.toNat_natCast]; omega
         rw [this]
        exact ⟨Q3, fun j hj => (g1 j hj).trans (hag j hj), g2, .step (hre.trans g3) hJ.1 hjmp⟩
     ·rw [if_neg hh] at hre ⊢
      have h3' := h3 Q2
      cases d with
      | none =>
        obtain ⟨t, k1, k2, k3⟩ := h3'
        exact ⟨t, hre.trans k1, k2, k3⟩
      | some v =>
        obtain ⟨Q3, g1, g2, g3⟩ := h3'
        exact ⟨Q3, fun j hj => (g1 j hj).trans (hag j hj), g2, hre.trans g3⟩
theorem tkN_vals : tkN 1 = 0 ∧ tkN 2 = 0 ∧ tkN 3 = 0 ∧ tkN 4 = 0 ∧ tkN 5 = 1 ∧ tkN 6 = 1 ∧ tkN 7 = 1 ∧ tkN 8 = 2 ∧ tkN 9 = 2 ∧ tkN 10 = 1 ∧ tkN 11 = 1 ∧ tkN 12 = 2 ∧ tkN 13 = 2 := by decide
theorem code_comes {l : List Ln} {kn : Kn} {vs : List Int} {P : List Bk} {V : Nat → Int} (hV : ∀ p, p < vs.length → V p = vs.getD p 0) (x : Ex) : x.fit (fun s => ∀ p, lnsG l s = some p → p < vs.length) (fun _ => True) → ∀ (i m : Nat) (Q : Nat → Int), Seg P i (x.code l kn) → Comes kn P ⟨i, m, Q, V⟩ (i + (x.code l kn).length) (x.val l kn vs) := by
 induction x with
 | no => intro h; exact h.elim
 | mk k n s mm kid ih =>
   rintro ⟨⟨h1, h13, hm, hl, hu⟩, ⟨hok, -⟩, hk⟩ i m Q hseg
   obtain ⟨t1, t2, t3, t4, t5, t6, t7, t8, t9, t10, t11, t12, t13⟩ := tkN_vals
   have hleaf : ∀ {q : Nat} {z v : Int}, q ≤ 13 → tkN q = 0 → mm = 0 → k ≠ 13 → stepOf l kn k n s = ⟨(q : Int), z⟩ → (∀ x y, rkO kn V q z x y = some v) → Comes kn P ⟨i, m, Q, V⟩ (i + ((Ex.mk k n s mm kid).code l kn).length) (some v) := by
    intro q z v hq ht hm0 hk13 hst hr
    subst hm0
    rw [code_0 l kn n s kid hk13] at hseg ⊢
    rw [hst] at hseg
    exact mcomes_leaf hq ht hseg.head hr
   have hone : ∀ {q : Nat} {z : Int} {g : Int → Option Int}, q ≤ 13 → tkN q = 1 → mm = 1 → k ≠ 13 → stepOf l kn k n s = ⟨(q : Int), z⟩ → (∀ x y, rkO kn V q z x y = g x) → Comes kn P ⟨i, m, Q, V⟩ (i + ((Ex.mk k n s mm kid).code l kn).length) (((kid 0).val l kn vs).bind g) := by
    intro q z g hq ht hm0 hk13 hst hr
    subst hm0
    rw [code_1 l kn n s kid hk13] at hseg ⊢
    rw [hst] at hseg
    have h0 := ih 0 (hk 0 (by omega)) i m Q hseg.left
    have hh := mcomes_one h0 hq ht hseg.right.head g hr
    rw [List.length_append]
    exact hh
   have htwo : ∀ {q : Nat} {z : Int} {g : Int → Int → Option Int}, q ≤ 13 → tkN q = 2 → mm = 2 → k ≠ 13 → stepOf l kn k n s = ⟨(q : Int), z⟩ → (∀ x y, rkO kn V q z x y = g x y) → Comes kn P ⟨i, m, Q, V⟩ (i + ((Ex.mk k n s mm kid).code l kn).length) (((kid 0).val l kn vs).bind fun x => ((kid 1).val l kn vs).bind fun y => g x y) := by
    intro q z g hq ht hm0 hk13 hst hr
    subst hm0
    rw [code_2 l kn n s kid hk13] at hseg ⊢
    rw [hst] at hseg
    have h0 := ih 0 (hk 0 (by omega)) i m Q hseg.left
    have hh := mcomes_two h0 (fun x _ Q' => ih 1 (hk 1 (by omega)) _ (m + 1) Q' hseg.right.left) hq ht hseg.right.right.head g hr
    rw [List.length_append, List.length_append]
    rw [show i + (((kid 0).code l kn).length + (((kid 1).code l kn).length + [stepOf l kn k n s].length)) = i + ((kid 0).code l kn).length + ((kid 1).code l kn).length + 1 by simp; omega]
    exact hh
   have hcase : k = 1 ∨ k = 2 ∨ k = 3 ∨ k = 4 ∨ k = 5 ∨ k = 6 ∨ k = 7 ∨ k = 8 ∨ k = 9 ∨ k = 10 ∨ k = 11 ∨ k = 12 ∨ k = 13 := by omega
   rcases hcase with rfl | rfl | rfl | rfl | rfl | rfl | rfl | rfl | rfl | rfl | rfl | rfl | rfl
   ·have hm0 : mm = 0 := by have : kidsOf 1 = 0 := (by decide); omega
    rw [Ex.val, if_pos rfl]
    exact hleaf (q := 1) (z := n) (by decide) t1 hm0 (by decide) (by unfold stepOf; rw [if_pos rfl]; rfl) (fun _ _ => by simp [rkO])
   ·have hm0 : mm = 0 := by have : kidsOf 2 = 0 := (by decide); omega
    rw [Ex.val, if_neg (by decide), if_pos rfl]
    cases hg : lnsG l s with
    | some p =>
      refine hleaf (q := 3) (z := (p : Int)) (by decide) t3 hm0 (by decide) (by unfold stepOf; rw [if_neg (by decide), if_pos rfl, hg]; rfl) (fun _ _ => ?_)
      have e1 : rkO kn V 3 (p : Int) = fun _ _ => some (V p) := by funext a b; simp [rkO]
      rw [e1]
      unfold namV
      rw [hg, hV p (hok rfl p hg)]
    | none =>
      refine hleaf (q := 2) (z := (((insG kn s).getD 0 : Nat) : Int)) (by decide) t2 hm0 (by decide) (by unfold stepOf; rw [if_neg (by decide), if_pos rfl, hg]; rfl) (fun a b => ?_)
      unfold namV
      rw [hg]
      simp [rkO]
   ·have hm0 : mm = 0 := by have : kidsOf 3 = 0 := (by decide); omega
    rw [Ex.val, if_neg (by decide), if_neg (by decide), if_pos rfl]
    cases hg : yrsG kn s with
    | some p =>
      refine hleaf (q := 4) (z := (p : Int)) (by decide) t4 hm0 (by decide) (by unfold stepOf; rw [if_neg (by decide), if_neg (by decide), if_pos rfl, hg]; rfl) (fun a b => ?_)
      unfold yearV
      rw [hg]
      simp [rkO]
    | none =>
      refine hleaf (q := 1) (z := 0) (by decide) t1 hm0 (by decide) (by unfold stepOf; rw [if_neg (by decide), if_neg (by decide), if_pos rfl, hg]; rfl) (fun a b => ?_)
      unfold yearV
      rw [hg]
      simp [rkO]
   ·have hm0 : mm = 1 := by have : kidsOf 4 = 1 := (by decide); omega
    rw [val_one (by decide)]
    exact hone (q := 5) (z := n) (by decide) t5 hm0 (by decide) rfl (fun a b => by simp [rkO, oneO])
   ·have hm0 : mm = 1 := by have : kidsOf 5 = 1 := (by decide); omega
    rw [val_one (by decide)]
    exact hone (q := 6) (z := (((tbsG kn s).getD 0 : Nat) : Int)) (by decide) t6 hm0 (by decide) rfl (fun a b => by simp [rkO, oneO])
   ·have hm0 : mm = 1 := by have : kidsOf 6 = 1 := (by decide); omega
    rw [val_one (by decide)]
    exact hone (q := 7) (z := n) (by decide) t7 hm0 (by decide) rfl (fun a b => by simp [rkO, oneO])
   ·have hm0 : mm = 2 := by have : kidsOf 7 = 2 := (by decide); omega
    rw [val_two (by decide)]
    exact htwo (q := 8) (z := n) (by decide) t8 hm0 (by decide) rfl (fun a b => by simp [rkO, twoO])
   ·have hm0 : mm = 2 := by have : kidsOf 8 = 2 := (by decide); omega
    rw [val_two (by decide)]
    exact htwo (q := 9) (z := n) (by decide) t9 hm0 (by decide) rfl (fun a b => by simp [rkO, twoO])
   ·have hm0 : mm = 1 := by have : kidsOf 9 = 1 := (by decide); omega
    rw [val_one (by decide)]
    exact hone (q := 10) (z := n) (by decide) t10 hm0 (by decide) rfl (fun a b => by simp [rkO, oneO])
   ·have hm0 : mm = 1 := by have : kidsOf 10 = 1 := (by decide); omega
    rw [val_one (by decide)]
    exact hone (q := 11) (z := n) (by decide) t11 hm0 (by decide) rfl (fun a b => by simp [rkO, oneO])
   ·have hm0 : mm = 2 := by have : kidsOf 11 = 2 := (by decide); omega
    rw [val_two (by decide)]
    exact htwo (q := 12) (z := n) (by decide) t12 hm0 (by decide) rfl (fun a b => by simp [rkO, twoO]; omega)
   ·have hm0 : mm = 2 := by have : kidsOf 12 = 2 := (by decide); omega
    rw [val_two (by decide)]
    exact htwo (q := 13) (z := n) (by decide) t13 hm0 (by decide) rfl (fun a b => by simp [rkO, twoO]; omega)
   ·have hm0 : mm = 4 := by have : kidsOf 13 = 4 := (by decide); omega
    have e1 : leastOf 13 = 1 := by decide
    have e2 : mostOf 13 = 3 := by decide
    rw [code_13] at hseg ⊢
    rw [val_if]
    have s1 := hseg.right
    have s2 := s1.right
    have s3 := s2.tail
    have s4 := s3.right
    obtain ⟨L0, hL0⟩ : ∃ x, ((kid 0).code l kn).length = x := ⟨_, rfl⟩
    obtain ⟨L1, hL1⟩ : ∃ x, ((kid 1).code l kn).length = x := ⟨_, rfl⟩
    obtain ⟨L2, hL2⟩ : ∃ x, ((kid 2).code l kn).length = x := ⟨_, rfl⟩
    obtain ⟨L3, hL3⟩ : ∃ x, ((kid 3).code l kn).length = x := ⟨_, rfl⟩
    have c0 := ih 0 (hk 0 (by omega)) i m Q hseg.left
    have c1 := fun Q' => ih 1 (hk 1 (by omega)) _ (m + 1) Q' s1.left
    have c2 := fun Q' => ih 2 (hk 2 (by omega)) _ m Q' s3.left
    have c3 := fun Q' => ih 3 (hk 3 (by omega)) _ m Q' s4.tail
    have hT := s2.head
    have hJ := s4.head
    rw [hL0] at c0 c1 c2 c3 hT hJ
    rw [hL1] at c1 c2 c3 hT hJ
    rw [hL2] at c2 c3 hT hJ
    rw [hL3] at c3 hJ
    have hzt : (n + 4 * ((L2 + 1 : Nat) : Int)).tmod 4 = n := by rw [Int.tmod_eq_emod_of_nonneg (by omega)]; omega
    have hzd : (furI 15 (n + 4 * ((L2 + 1 : Nat) : Int))).toNat = L2 + 1 := by
     unfold furI
     rw [if_neg (by decide), if_pos rfl, Int.tdiv_eq_ediv_of_nonneg (by omega)]
     omega
    have hend : i + ((kid 0).code l kn ++ ((kid 1).code l kn ++ (⟨15, n + 4 * (((kid 2).code l kn).length + 1 : Nat)⟩ :: ((kid 2).code l kn ++ (⟨14, (((kid 3).code l kn).length : Nat)⟩ :: (kid 3).code l kn))))).length = i + L0 + L1 + 1 + L2 + 1 + L3 := by simp [hL0, hL1, hL2, hL3]; omega
    rw [hend]
    exact mcomes_if (e := i + L0) (e1 := i + L0 + L1) (e2 := i + L0 + L1 + 1 + L2) c0 c1 hT hzt (by rw [hzd]; omega) c2 (by rw [show i + L0 + L1 + 1 + L2 + 1 + L3 - (i + L0 + L1 + 1 + L2 + 1) = L3 by omega]; exact hJ) (by omega) c3
def Free (S : Nat → Sp) (t : Nat) : Prop := (S t).r = false ∧ (S t).h = false
def Open1 (S : Nat → Sp) (t : Nat) (d : Int) (k : Nat) : Prop := (S t).h = false ∧ ((S t).r = true → (S t).d = d ∧ (S t).k = k)
theorem Free.open {S : Nat → Sp} {t : Nat} (h : Free S t) (d : Int) (k : Nat) : Open1 S t d k := ⟨h.2, fun hr => by rw [h.1] at hr; cases hr⟩
theorem reach_open {S : Nat → Sp} {t : Nat} {d : Int} {k : Nat} (h : Open1 S t d k) : rchS S t d k t = ⟨d, k, true, false⟩ := by
 rw [rch_at]
 have : hungB (S t).d (S t).k d k (S t).r (S t).h = false := by
  unfold hungB
  rw [h.1]
  cases hr : (S t).r
  ·rfl
  ·obtain ⟨e1, e2⟩ := h.2 hr
   rw [e1, e2]
   simp
 rw [this]
structure Passes (P : List Bk) (lines : Int) (n1 n2 n3 i e : Nat) (d' : Int) (k' : Nat) (M : Int) : Prop where
 at_ : ckS P e e = ⟨d', k', true, false⟩
 far : ∀ t, e < t → ckS P e t = ckS P i t
 ok : ∀ j, i ≤ j → j < e → ckE P lines n1 n2 n3 j = 0
 most : ckM P e ≤ maxI (ckM P i) M
theorem Passes.then {P : List Bk} {lines : Int} {n1 n2 n3 i e f : Nat} {d1 d2 M1 M2 : Int} {k1 k2 : Nat} (h1 : Passes P lines n1 n2 n3 i e d1 k1 M1) (h2 : Passes P lines n1 n2 n3 e f d2 k2 M2) (hef : e ≤ f) : Passes P lines n1 n2 n3 i f d2 k2 (maxI M1 M2) := by
 refine ⟨h2.at_, fun t ht => (h2.far t ht).trans (h1.far t (by omega)), fun j h3 h4 => ?_, ?_⟩
 ·by_cases hj : j < e
  ·exact h1.ok j h3 hj
  ·exact h2.ok j (by omega) h4
 ·have a1 := h1.most
  have a2 := h2.most
  unfold maxI at *
  split at a1 <;> split at a2 <;> (repeat' split) <;> omega
theorem pass_step {P : List Bk} {lines : Int} {n1 n2 n3 j q : Nat} {z d : Int} {k : Nat} (hP : j < P.length ∧ bnth P j = ⟨(q : Int), z⟩) (hq1 : 1 ≤ q) (hq2 : q ≤ 16) (h14 : q ≠ 14) (h15 : q ≠ 15) (hS : ckS P j j = ⟨d, k, true, false⟩) (hf : fitsB (q : Int) z lines n1 n2 n3 P.length j = true) (ha : allowB d k q z = true) (hO : Open1 (ckS P j) (j + 1) (nxD d q) (nxK k q z)) :
 Passes P lines n1 n2 n3 j (j + 1) (nxD d q) (nxK k q z) (nxD d q) := by
 have hto : toN ⟨(q : Int), z⟩ j = j + 1 := by unfold toN furI; rw [if_neg (by simp only []; omega), if_neg (by simp only []; omega)]; rfl
 have hst : ckS P (j + 1) = rchS (ckS P j) (j + 1) (nxD d q) (nxK k q z) := by
  show stpS (ckS P j) (bnth P j) j = _
  rw [hP.2]
  unfold stpS
  rw [hS, if_neg (by simp), if_neg (by simp only []; omega)]
  unfold nxS
  rw [hto, hS]
  simp only [Int.toNat_natCast]
 refine ⟨by rw [hst]; exact reach_open hO, fun t ht => by rw [hst, rch_ne _ _ _ (by omega)], fun t h1 h2 => ?_, ?_⟩
 ·obtain rfl : t = j := by omega
  unfold ckE
  rw [hP.2]
  unfold stpE
  simp only [Int.toNat_natCast]
  rw [hS, if_neg (by omega), if_neg (by rw [hf]; decide), if_neg (by simp), if_neg (by simp), if_neg (by simp only []; rw [ha]; decide)]
 ·show stpM (ckM P j) (ckS P j) (bnth P j) j ≤ _
  rw [hP.2]
  unfold stpM
  rw [hS, if_neg (by simp)]
  simp only [Int.toNat_natCast]
  exact Int.le_refl _
theorem step_ok {P : List Bk} {lines : Int} {n1 n2 n3 j q : Nat} {z d : Int} {k : Nat} (hP : j < P.length ∧ bnth P j = ⟨(q : Int), z⟩) (hq1 : 1 ≤ q) (hq2 : q ≤ 16) (hS : ckS P j j = ⟨d, k, true, false⟩) (hf : fitsB (q : Int) z lines n1 n2 n3 P.length j = true) (ha : allowB d k q z = true) :
 ckE P lines n1 n2 n3 j = 0 ∧ ckM P (j + 1) = maxI (ckM P j) (nxD d q) := by
 constructor
 ·unfold ckE
  rw [hP.2]
  unfold stpE
  simp only [Int.toNat_natCast]
  rw [hS, if_neg (by omega), if_neg (by rw [hf]; decide), if_neg (by simp), if_neg (by simp), if_neg (by simp only []; rw [ha]; decide)]
 ·show stpM (ckM P j) (ckS P j) (bnth P j) j = _
  rw [hP.2]
  unfold stpM
  rw [hS, if_neg (by simp)]
  simp only [Int.toNat_natCast]
theorem jump_to {P : List Bk} {j : Nat} {z d : Int} {k : Nat} (hP : bnth P j = ⟨14, z⟩) (hS : ckS P j j = ⟨d, k, true, false⟩) : ckS P (j + 1) = rchS (ckS P j) (j + 1 + z.toNat) d k := by
 show stpS (ckS P j) (bnth P j) j = _
 rw [hP]
 unfold stpS
 rw [hS, if_neg (by simp), if_neg (by simp)]
 unfold nxS
 rw [hS]
 have h1 : toN ⟨14, z⟩ j = j + 1 + z.toNat := by unfold toN furI; rw [if_pos rfl]
 have h2 : nxD d (14 : Int).toNat = d := by unfold nxD; have e1 : laysOf (((14 : Int).toNat : Nat) : Int) = 0 := (by decide); have e2 : takesOf (((14 : Int).toNat : Nat) : Int) = 0 := (by decide); omega
 have h3 : nxK k (14 : Int).toNat z = k := by unfold nxK; rw [if_neg (by decide)]
 rw [h1]
 simp only []
 rw [h2, h3]
theorem test_to {P : List Bk} {j : Nat} {z d : Int} {k : Nat} (hP : bnth P j = ⟨15, z⟩) (hS : ckS P j j = ⟨d, k, true, false⟩) : ckS P (j + 1) = rchS (rchS (ckS P j) (j + 1 + (furI 15 z).toNat) (d - 2) k) (j + 1) (d - 2) k := by
 show stpS (ckS P j) (bnth P j) j = _
 rw [hP]
 unfold stpS
 rw [hS, if_neg (by simp), if_pos rfl]
 unfold nxS
 rw [hS]
 have h2 : nxD d (15 : Int).toNat = d - 2 := by unfold nxD; have e1 : laysOf (((15 : Int).toNat : Nat) : Int) = 0 := (by decide); have e2 : takesOf (((15 : Int).toNat : Nat) : Int) = 2 := (by decide); omega
 have h3 : nxK k (15 : Int).toNat z = k := by unfold nxK; rw [if_neg (by decide)]
 simp only []
 rw [h2, h3]
 rfl
theorem maxI_mono {a b c : Int} (h : b ≤ c) : maxI a b ≤ maxI a c := by unfold maxI; (repeat' split) <;> omega
theorem Passes.upto {P : List Bk} {lines : Int} {n1 n2 n3 i e : Nat} {d' M M' : Int} {k' : Nat} (h : Passes P lines n1 n2 n3 i e d' k' M) (hM : M ≤ M') : Passes P lines n1 n2 n3 i e d' k' M' := ⟨h.at_, h.far, h.ok, Int.le_trans h.most (maxI_mono hM)⟩
theorem Free.far {P : List Bk} {lines : Int} {n1 n2 n3 i e : Nat} {d' M : Int} {k' t : Nat} (h : Free (ckS P i) t) (hp : Passes P lines n1 n2 n3 i e d' k' M) (ht : e < t) : Free (ckS P e) t := by unfold Free; rw [hp.far t ht]; exact h
theorem Open1.far {P : List Bk} {lines : Int} {n1 n2 n3 i e : Nat} {d d' M : Int} {k k' t : Nat} (h : Open1 (ckS P i) t d k) (hp : Passes P lines n1 n2 n3 i e d' k' M) (ht : e < t) : Open1 (ckS P e) t d k := by unfold Open1; rw [hp.far t ht]; exact h
theorem pass_if {P : List Bk} {lines : Int} {n1 n2 n3 i e0 e1 L2 L3 : Nat} {zz d M0 M1 M2 M3 : Int} {k : Nat}
 (h0 : Passes P lines n1 n2 n3 i e0 (d + 1) k M0) (h1 : Passes P lines n1 n2 n3 e0 e1 (d + 2) k M1) (he : i ≤ e0 ∧ e0 ≤ e1)
 (hfree : ∀ t, i < t → t < e1 + 1 + L2 + 1 + L3 → Free (ckS P i) t) (hopen : Open1 (ckS P i) (e1 + 1 + L2 + 1 + L3) (d + 1) k) (hd : 0 ≤ d)
 (hT : e1 < P.length ∧ bnth P e1 = ⟨15, zz⟩) (hz : (furI 15 zz).toNat = L2 + 1) (hTf : fitsB 15 zz lines n1 n2 n3 P.length e1 = true)
 (hJ : e1 + 1 + L2 < P.length ∧ bnth P (e1 + 1 + L2) = ⟨14, (L3 : Int)⟩) (hJf : fitsB 14 (L3 : Int) lines n1 n2 n3 P.length (e1 + 1 + L2) = true) (hL : 1 ≤ L2 ∧ 1 ≤ L3)
 (h2 : ckS P (e1 + 1) (e1 + 1) = ⟨d, k, true, false⟩ → (∀ t, e1 + 1 < t → t < e1 + 1 + L2 → Free (ckS P (e1 + 1)) t) → Open1 (ckS P (e1 + 1)) (e1 + 1 + L2) (d + 1) k → Passes P lines n1 n2 n3 (e1 + 1) (e1 + 1 + L2) (d + 1) k M2)
 (h3 : ckS P (e1 + 1 + L2 + 1) (e1 + 1 + L2 + 1) = ⟨d, k, true, false⟩ → (∀ t, e1 + 1 + L2 + 1 < t → t < e1 + 1 + L2 + 1 + L3 → Free (ckS P (e1 + 1 + L2 + 1)) t) → Open1 (ckS P (e1 + 1 + L2 + 1)) (e1 + 1 + L2 + 1 + L3) (d + 1) k → Passes P lines n1 n2 n3 (e1 + 1 + L2 + 1) (e1 + 1 + L2 + 1 + L3) (d + 1) k M3) :
 Passes P lines n1 n2 n3 i (e1 + 1 + L2 + 1 + L3) (d + 1) k (maxI (maxI M0 M1) (maxI (maxI d M2) (maxI (d + 1) M3))) := by
 have h01 := h0.then h1 he.2
 have hts := test_to hT.2 h01.at_
 rw [hz, show d + 2 - 2 = d by omega] at hts
 have hfr : ∀ t, e1 < t → t < e1 + 1 + L2 + 1 + L3 → Free (ckS P e1) t := fun t ht1 ht2 => (hfree t (by omega) ht2).far h01 ht1
 have hop := hopen.far h01 (by omega)
 have s5 : e1 + 1 + (L2 + 1) = e1 + 1 + L2 + 1 := by omega
 rw [s5] at hts
 have a3 : ckS P (e1 + 1) (e1 + 1) = ⟨d, k, true, false⟩ := by
  rw [hts]
  refine reach_open ?_
  unfold Open1
  rw [rch_ne _ _ _ (by omega)]
  exact (hfr _ (by omega) (by omega)).open d k
 have a5 : ckS P (e1 + 1) (e1 + 1 + L2 + 1) = ⟨d, k, true, false⟩ := by
  rw [hts, rch_ne _ _ _ (by omega)]
  exact reach_open ((hfr _ (by omega) (by omega)).open d k)
 have aoth : ∀ t, e1 + 1 < t → t ≠ e1 + 1 + L2 + 1 → ckS P (e1 + 1) t = ckS P e1 t := fun t ht1 ht2 => by
  rw [hts, rch_ne _ _ _ (by omega), rch_ne _ _ _ ht2]
 have hal15 : allowB (d + 2) k 15 zz = true := by unfold allowB; rw [if_neg (by have : takesOf ((15 : Nat) : Int) = 2 := (by decide); omega), if_neg (by decide), if_neg (by decide)]
 have ok1 := step_ok (q := 15) (lines := lines) (n1 := n1) (n2 := n2) (n3 := n3) hT (by decide) (by decide) h01.at_ hTf hal15
 have p2 := h2 a3 (fun t ht1 ht2 => by unfold Free; rw [aoth t ht1 (by omega)]; exact hfr t (by omega) (by omega)) (by unfold Open1; rw [aoth _ (by omega) (by omega)]; exact (hfr _ (by omega) (by omega)).open _ _)
 have hjs := jump_to hJ.2 p2.at_
 rw [Int.toNat_natCast] at hjs
 have b5 : ckS P (e1 + 1 + L2 + 1) (e1 + 1 + L2 + 1) = ⟨d, k, true, false⟩ := by
  rw [hjs, rch_ne _ _ _ (by omega), p2.far _ (by omega)]
  exact a5
 have both : ∀ t, e1 + 1 + L2 + 1 < t → t ≠ e1 + 1 + L2 + 1 + L3 → ckS P (e1 + 1 + L2 + 1) t = ckS P e1 t := fun t ht1 ht2 => by
  rw [hjs, rch_ne _ _ _ ht2, p2.far t (by omega), aoth t (by omega) (by omega)]
 have bend : ckS P (e1 + 1 + L2 + 1) (e1 + 1 + L2 + 1 + L3) = ⟨d + 1, k, true, false⟩ := by
  rw [hjs]
  refine reach_open ?_
  unfold Open1
  rw [p2.far _ (by omega), aoth _ (by omega) (by omega)]
  exact hop
 have hal14 : allowB (d + 1) k 14 (L3 : Int) = true := by unfold allowB; rw [if_neg (by have : takesOf ((14 : Nat) : Int) = 0 := (by decide); omega), if_neg (by decide), if_neg (by decide)]
 have ok2 := step_ok (q := 14) (lines := lines) (n1 := n1) (n2 := n2) (n3 := n3) hJ (by decide) (by decide) p2.at_ hJf hal14
 have p3 := h3 b5 (fun t ht1 ht2 => by unfold Free; rw [both t ht1 (by omega)]; exact hfr t (by omega) ht2) ⟨by rw [bend], fun _ => by rw [bend]; exact ⟨rfl, rfl⟩⟩
 refine ⟨p3.at_, fun t ht => ?_, fun j hj1 hj2 => ?_, ?_⟩
 ·rw [p3.far t ht, both t (by omega) (by omega), h01.far t (by omega)]
 ·by_cases c1 : j < e1
  ·exact h01.ok j hj1 c1
  by_cases c2 : j = e1
  ·subst c2; exact ok1.1
  by_cases c3 : j < e1 + 1 + L2
  ·exact p2.ok j (by omega) c3
  by_cases c4 : j = e1 + 1 + L2
  ·subst c4; exact ok2.1
  exact p3.ok j (by omega) hj2
 ·have m1 := h01.most
  have m2 := ok1.2
  have m3 := p2.most
  have m4 := ok2.2
  have m5 := p3.most
  have n15 : nxD (d + 2) 15 = d := by unfold nxD; have e1 : laysOf ((15 : Nat) : Int) = 0 := (by decide); have e2 : takesOf ((15 : Nat) : Int) = 2 := (by decide); omega
  have n14 : nxD (d + 1) 14 = d + 1 := by unfold nxD; have e1 : laysOf ((14 : Nat) : Int) = 0 := (by decide); have e2 : takesOf ((14 : Nat) : Int) = 0 := (by decide); omega
  rw [n15] at m2
  rw [n14] at m4
  have g := fun a b => maxI_ge a b
  have u : ∀ a b c : Int, a ≤ c → b ≤ c → maxI a b ≤ c := fun a b c h1 h2 => by unfold maxI; split <;> omega
  have T := maxI (ckM P i) (maxI (maxI M0 M1) (maxI (maxI d M2) (maxI (d + 1) M3)))
  have g1 := g (ckM P i) (maxI (maxI M0 M1) (maxI (maxI d M2) (maxI (d + 1) M3)))
  have g2 := g (maxI M0 M1) (maxI (maxI d M2) (maxI (d + 1) M3))
  have g3 := g (maxI d M2) (maxI (d + 1) M3)
  have g4 := g d M2
  have g5 := g (d + 1) M3
  have k1 : ckM P e1 ≤ maxI (ckM P i) (maxI (maxI M0 M1) (maxI (maxI d M2) (maxI (d + 1) M3))) := Int.le_trans m1 (u _ _ _ g1.1 (by omega))
  have k2 : ckM P (e1 + 1) ≤ maxI (ckM P i) (maxI (maxI M0 M1) (maxI (maxI d M2) (maxI (d + 1) M3))) := by rw [m2]; exact u _ _ _ k1 (by omega)
  have k3 := Int.le_trans m3 (u _ _ _ k2 (by omega))
  have k4 : ckM P (e1 + 1 + L2 + 1) ≤ maxI (ckM P i) (maxI (maxI M0 M1) (maxI (maxI d M2) (maxI (d + 1) M3))) := by rw [m4]; exact u _ _ _ k3 (by omega)
  exact Int.le_trans m5 (u _ _ _ k4 (by omega))
theorem code_pos {l : List Ln} {kn : Kn} {ok tb : ByteArray → Prop} (x : Ex) : x.fit ok tb → 1 ≤ (x.code l kn).length := by
 cases x with
 | no => intro h; exact h.elim
 | mk k n s m kid =>
   intro _
   by_cases hk : k = 13
   ·subst hk
    rw [code_13]
    simp
    omega
   ·rw [Ex.code, if_neg hk]
    simp
theorem depth_1 (k n : Int) (s : ByteArray) (kid : Nat → Ex) : (Ex.mk k n s 1 kid).depth = 1 + (kid 0).depth := by rw [Ex.depth]; show 1 + max 0 (kid 0).depth = _; omega
theorem depth_2 (k n : Int) (s : ByteArray) (kid : Nat → Ex) : (Ex.mk k n s 2 kid).depth = 1 + max (kid 0).depth (kid 1).depth := by rw [Ex.depth]; show 1 + max (max 0 (kid 0).depth) (kid 1).depth = _; omega
theorem depth_4 (k n : Int) (s : ByteArray) (kid : Nat → Ex) : (Ex.mk k n s 4 kid).depth = 1 + max (max (max (kid 0).depth (kid 1).depth) (kid 2).depth) (kid 3).depth := by rw [Ex.depth]; show 1 + max (max (max (max 0 (kid 0).depth) (kid 1).depth) (kid 2).depth) (kid 3).depth = _; omega
theorem nx_0 (d : Int) : nxD d 1 = d + 1 ∧ nxD d 2 = d + 1 ∧ nxD d 3 = d + 1 ∧ nxD d 4 = d + 1 := by
 have a1 : laysOf ((1 : Nat) : Int) - takesOf ((1 : Nat) : Int) = 1 := by decide
 have a2 : laysOf ((2 : Nat) : Int) - takesOf ((2 : Nat) : Int) = 1 := by decide
 have a3 : laysOf ((3 : Nat) : Int) - takesOf ((3 : Nat) : Int) = 1 := by decide
 have a4 : laysOf ((4 : Nat) : Int) - takesOf ((4 : Nat) : Int) = 1 := by decide
 unfold nxD
 omega
theorem nx_1 (d : Int) {q : Nat} (h : q = 5 ∨ q = 6 ∨ q = 7 ∨ q = 10 ∨ q = 11) : nxD (d + 1) q = d + 1 ∧ takesOf (q : Int) = 1 := by
 have a : laysOf (q : Int) = 1 ∧ takesOf (q : Int) = 1 := by rcases h with rfl | rfl | rfl | rfl | rfl <;> decide
 unfold nxD
 omega
theorem nx_2 (d : Int) {q : Nat} (h : q = 8 ∨ q = 9 ∨ q = 12 ∨ q = 13) : nxD (d + 1 + 1) q = d + 1 ∧ takesOf (q : Int) = 2 := by
 have a : laysOf (q : Int) = 1 ∧ takesOf (q : Int) = 2 := by rcases h with rfl | rfl | rfl | rfl <;> decide
 unfold nxD
 omega
theorem code_passes {l : List Ln} {kn : Kn} {P : List Bk} {lines : Int} {n1 n2 n3 c k : Nat} (h1 : kn.ins.length = n1) (h2 : kn.tbs.length = n2) (h3 : kn.yrs.length = n3) (hc : (c : Int) ≤ lines) (hb : ∀ p, p < c → k.testBit p = true) (x : Ex) :
 x.fit (fun s => (∀ p, lnsG l s = some p → p < c) ∧ (lnsG l s = none → (insG kn s).isSome = true)) (fun s => (tbsG kn s).isSome = true) → ∀ (i : Nat) (d : Int), 0 ≤ d → Seg P i (x.code l kn) → ckS P i i = ⟨d, k, true, false⟩ → (∀ t, i < t → t < i + (x.code l kn).length → Free (ckS P i) t) → Open1 (ckS P i) (i + (x.code l kn).length) (d + 1) k →
 Passes P lines n1 n2 n3 i (i + (x.code l kn).length) (d + 1) k (d + (x.depth : Int)) := by
 induction x with
 | no => intro h; exact h.elim
 | mk kd n s mm kid ih =>
   intro hfit i d hd hseg hS hfree hopen
   have hfit0 := hfit
   obtain ⟨⟨g1, g13, hm, hl, hu⟩, ⟨hok, htb⟩, hk⟩ := hfit
   have hdp := Ex.depth_pos (Ex.mk kd n s mm kid)
   have hleaf : ∀ {q : Nat} {z : Int}, q = 1 ∨ q = 2 ∨ q = 3 ∨ q = 4 → mm = 0 → kd ≠ 13 → stepOf l kn kd n s = ⟨(q : Int), z⟩ → fitsB (q : Int) z lines n1 n2 n3 P.length i = true → (q = 3 → k.testBit z.toNat = true) → Passes P lines n1 n2 n3 i (i + ((Ex.mk kd n s mm kid).code l kn).length) (d + 1) k (d + ((Ex.mk kd n s mm kid).depth : Int)) := by
    intro q z hq hm0 hk13 hst hf h3k
    subst hm0
    rw [code_0 l kn n s kid hk13] at hseg hopen ⊢
    rw [hst] at hseg
    have hnx : nxD d q = d + 1 := by rcases hq with rfl | rfl | rfl | rfl; exact (nx_0 d).1; exact (nx_0 d).2.1; exact (nx_0 d).2.2.1; exact (nx_0 d).2.2.2
    have htk : takesOf (q : Int) = 0 := by rcases hq with rfl | rfl | rfl | rfl <;> decide
    have hnk : nxK k q z = k := by unfold nxK; rw [if_neg (by omega)]
    have hp := pass_step (lines := lines) (n1 := n1) (n2 := n2) (n3 := n3) (hP := hseg.head) (by omega) (by omega) (by omega) (by omega) hS hf (by
     unfold allowB
     rw [if_neg (by omega)]
     split
     ·rename_i e; exact h3k e
     ·rw [if_neg (by omega)]) (by rw [hnx, hnk]; exact hopen)
    rw [hnx, hnk] at hp
    exact hp.upto (by omega)
   have hone : ∀ {q : Nat} {z : Int}, q = 5 ∨ q = 6 ∨ q = 7 ∨ q = 10 ∨ q = 11 → mm = 1 → kd ≠ 13 → stepOf l kn kd n s = ⟨(q : Int), z⟩ → (∀ j, fitsB (q : Int) z lines n1 n2 n3 P.length j = true) → Passes P lines n1 n2 n3 i (i + ((Ex.mk kd n s mm kid).code l kn).length) (d + 1) k (d + ((Ex.mk kd n s mm kid).depth : Int)) := by
    intro q z hq hm0 hk13 hst hf
    subst hm0
    rw [depth_1]
    rw [code_1 l kn n s kid hk13] at hseg hopen hfree ⊢
    rw [hst] at hseg hopen hfree ⊢
    rw [List.length_append] at hopen hfree ⊢
    simp only [List.length_cons, List.length_nil] at hopen hfree ⊢
    have p0 := ih 0 (hk 0 (by omega)) i d hd hseg.left hS (fun t a b => hfree t a (by omega)) ((hfree _ (by have := code_pos (l := l) (kn := kn) (kid 0) (hk 0 (by omega)); omega) (by omega)).open _ _)
    obtain ⟨hnx, htk⟩ := nx_1 d hq
    have hnk : nxK k q z = k := by unfold nxK; rw [if_neg (by omega)]
    have hp := pass_step (lines := lines) (n1 := n1) (n2 := n2) (n3 := n3) (hP := hseg.right.head) (by omega) (by omega) (by omega) (by omega) p0.at_ (hf _) (by unfold allowB; rw [if_neg (by omega), if_neg (by omega), if_neg (by omega)]) (by rw [hnx, hnk]; exact hopen.far p0 (by omega))
    rw [hnx, hnk] at hp
    exact (p0.then hp (by omega)).upto (by unfold maxI; split <;> omega)
   have htwo : ∀ {q : Nat} {z : Int}, q = 8 ∨ q = 9 ∨ q = 12 ∨ q = 13 → mm = 2 → kd ≠ 13 → stepOf l kn kd n s = ⟨(q : Int), z⟩ → (∀ j, fitsB (q : Int) z lines n1 n2 n3 P.length j = true) → Passes P lines n1 n2 n3 i (i + ((Ex.mk kd n s mm kid).code l kn).length) (d + 1) k (d + ((Ex.mk kd n s mm kid).depth : Int)) := by
    intro q z hq hm0 hk13 hst hf
    subst hm0
    rw [depth_2]
    rw [code_2 l kn n s kid hk13] at hseg hopen hfree ⊢
    rw [hst] at hseg hopen hfree ⊢
    rw [List.length_append, List.length_append] at hopen hfree ⊢
    simp only [List.length_cons, List.length_nil] at hopen hfree ⊢
    have el : i + (((kid 0).code l kn).length + (((kid 1).code l kn).length + (0 + 1))) = i + ((kid 0).code l kn).length + ((kid 1).code l kn).length + 1 := by omega
    rw [el] at hopen hfree ⊢
    have q0 := code_pos (l := l) (kn := kn) (kid 0) (hk 0 (by omega))
    have q1 := code_pos (l := l) (kn := kn) (kid 1) (hk 1 (by omega))
    have p0 := ih 0 (hk 0 (by omega)) i d hd hseg.left hS (fun t a b => hfree t a (by omega)) ((hfree _ (by omega) (by omega)).open _ _)
    have p1 := ih 1 (hk 1 (by omega)) _ (d + 1) (by omega) hseg.right.left p0.at_ (fun t a b => (hfree t (by omega) (by omega)).far p0 a) (((hfree _ (by omega) (by omega)).far p0 (by omega)).open _ _)
    have p01 := p0.then p1 (by omega)
    obtain ⟨hnx, htk⟩ := nx_2 d hq
    have hnk : nxK k q z = k := by unfold nxK; rw [if_neg (by omega)]
    have hp := pass_step (lines := lines) (n1 := n1) (n2 := n2) (n3 := n3) (hP := hseg.right.right.head) (by omega) (by omega) (by omega) (by omega) p01.at_ (hf _) (by unfold allowB; rw [if_neg (by omega), if_neg (by omega), if_neg (by omega)]) (by rw [hnx, hnk]; exact (hopen.far p01 (by omega)))
    rw [hnx, hnk] at hp
    have := (p01.then hp (by omega)).upto (M' := d + ((1 + max (kid 0).depth (kid 1).depth : Nat) : Int)) (by unfold maxI; (repeat' split) <;> omega)
    exact this
   have hcase : kd = 1 ∨ kd = 2 ∨ kd = 3 ∨ kd = 4 ∨ kd = 5 ∨ kd = 6 ∨ kd = 7 ∨ kd = 8 ∨ kd = 9 ∨ kd = 10 ∨ kd = 11 ∨ kd = 12 ∨ kd = 13 := by omega
   have b1 : leastOf 1 = 0 ∧ mostOf 1 = 1000000000000 := by decide
   have b4 : leastOf 4 = 0 ∧ mostOf 4 = 1000000 := by decide
   have b6 : leastOf 6 = 0 ∧ mostOf 6 = 0 ∧ leastOf 7 = 0 ∧ mostOf 7 = 0 ∧ leastOf 8 = 0 ∧ mostOf 8 = 0 ∧ leastOf 11 = 0 ∧ mostOf 11 = 0 ∧ leastOf 12 = 0 ∧ mostOf 12 = 0 := by decide
   have b9 : leastOf 9 = 1 ∧ mostOf 9 = 1000000 ∧ leastOf 10 = 1 ∧ mostOf 10 = 1000000 := by decide
   rcases hcase with rfl | rfl | rfl | rfl | rfl | rfl | rfl | rfl | rfl | rfl | rfl | rfl | rfl
   ·have hm0 : mm = 0 := by have : kidsOf 1 = 0 := (by decide); omega
    exact hleaf (q := 1) (z := n) (.inl rfl) hm0 (by decide) (by unfold stepOf; rw [if_pos rfl]; rfl) (by simp [fitsB, fitB, monB]; omega) (fun h => by cases h)
   ·have hm0 : mm = 0 := by have : kidsOf 2 = 0 := (by decide); omega
    cases hg : lnsG l s with
    | some p =>
      have hp := (hok rfl).1 p hg
      exact hleaf (q := 3) (z := (p : Int)) (.inr (.inr (.inl rfl))) hm0 (by decide) (by unfold stepOf; rw [if_neg (by decide), if_pos rfl, hg]; rfl) (by simp [fitsB, fitB, lowB]; omega) (fun _ => by rw [Int.toNat_natCast]; exact hb p hp)
    | none =>
      obtain ⟨p, hp⟩ := Option.isSome_iff_exists.1 ((hok rfl).2 hg)
      have hpl := vlast_lt hp
      exact hleaf (q := 2) (z := (((insG kn s).getD 0 : Nat) : Int)) (.inr (.inl rfl)) hm0 (by decide) (by unfold stepOf; rw [if_neg (by decide), if_pos rfl, hg]; rfl) (by rw [hp]; simp [fitsB, fitB, lowB]; omega) (fun h => by cases h)
   ·have hm0 : mm = 0 := by have : kidsOf 3 = 0 := (by decide); omega
    cases hg : yrsG kn s with
    | some p =>
      have hpl := vlast_lt hg
      exact hleaf (q := 4) (z := (p : Int)) (.inr (.inr (.inr rfl))) hm0 (by decide) (by unfold stepOf; rw [if_neg (by decide), if_neg (by decide), if_pos rfl, hg]; rfl) (by simp [fitsB, fitB, lowB]; omega) (fun h => by cases h)
    | none => exact hleaf (q := 1) (z := 0) (.inl rfl) hm0 (by decide) (by unfold stepOf; rw [if_neg (by decide), if_neg (by decide), if_pos rfl, hg]; rfl) (by simp [fitsB, fitB, monB]) (fun h => by cases h)
   ·have hm0 : mm = 1 := by have : kidsOf 4 = 1 := (by decide); omega
    exact hone (q := 5) (z := n) (.inl rfl) hm0 (by decide) rfl (fun j => by simp [fitsB, fitB]; omega)
   ·have hm0 : mm = 1 := by have : kidsOf 5 = 1 := (by decide); omega
    obtain ⟨p, hp⟩ := Option.isSome_iff_exists.1 (htb rfl)
    have hpl := vlast_lt hp
    exact hone (q := 6) (z := (((tbsG kn s).getD 0 : Nat) : Int)) (.inr (.inl rfl)) hm0 (by decide) rfl (fun j => by rw [hp]; simp [fitsB, fitB, lowB]; omega)
   ·have hm0 : mm = 1 := by have : kidsOf 6 = 1 := (by decide); omega
    exact hone (q := 7) (z := n) (.inr (.inr (.inl rfl))) hm0 (by decide) rfl (fun j => by simp [fitsB, fitB]; omega)
   ·have hm0 : mm = 2 := by have : kidsOf 7 = 2 := (by decide); omega
    exact htwo (q := 8) (z := n) (.inl rfl) hm0 (by decide) rfl (fun j => by simp [fitsB, fitB]; omega)
   ·have hm0 : mm = 2 := by have : kidsOf 8 = 2 := (by decide); omega
    exact htwo (q := 9) (z := n) (.inr (.inl rfl)) hm0 (by decide) rfl (fun j => by simp [fitsB, fitB]; omega)
   ·have hm0 : mm = 1 := by have : kidsOf 9 = 1 := (by decide); omega
    exact hone (q := 10) (z := n) (.inr (.inr (.inr (.inl rfl)))) hm0 (by decide) rfl (fun j => by simp [fitsB, fitB]; omega)
   ·have hm0 : mm = 1 := by have : kidsOf 10 = 1 := (by decide); omega
    exact hone (q := 11) (z := n) (.inr (.inr (.inr (.inr rfl)))) hm0 (by decide) rfl (fun j => by simp [fitsB, fitB]; omega)
   ·have hm0 : mm = 2 := by have : kidsOf 11 = 2 := (by decide); omega
    exact htwo (q := 12) (z := n) (.inr (.inr (.inl rfl))) hm0 (by decide) rfl (fun j => by simp [fitsB, fitB]; omega)
   ·have hm0 : mm = 2 := by have : kidsOf 12 = 2 := (by decide); omega
    exact htwo (q := 13) (z := n) (.inr (.inr (.inr rfl))) hm0 (by decide) rfl (fun j => by simp [fitsB, fitB]; omega)
   ·have hm0 : mm = 4 := by have : kidsOf 13 = 4 := (by decide); omega
    have e1 : leastOf 13 = 1 := by decide
    have e2 : mostOf 13 = 3 := by decide
    subst hm0
    rw [depth_4]
    rw [code_13] at hseg hopen hfree ⊢
    have s1 := hseg.right
    have s2 := s1.right
    have s3 := s2.tail
    have s4 := s3.right
    have q0 := code_pos (l := l) (kn := kn) (kid 0) (hk 0 (by omega))
    have q1 := code_pos (l := l) (kn := kn) (kid 1) (hk 1 (by omega))
    have q2 := code_pos (l := l) (kn := kn) (kid 2) (hk 2 (by omega))
    have q3 := code_pos (l := l) (kn := kn) (kid 3) (hk 3 (by omega))
    have hT := s2.head
    have hJ := s4.head
    have hPl := s4.tail.1
    have c0 := fun d' a b c' e' => ih 0 (hk 0 (by omega)) i d' a hseg.left b c' e'
    have c1 := fun d' a b c' e' => ih 1 (hk 1 (by omega)) _ d' a s1.left b c' e'
    have c2 := fun d' a b c' e' => ih 2 (hk 2 (by omega)) _ d' a s3.left b c' e'
    have c3 := fun d' a b c' e' => ih 3 (hk 3 (by omega)) _ d' a s4.tail b c' e'
    obtain ⟨L0, hL0⟩ : ∃ x, ((kid 0).code l kn).length = x := ⟨_, rfl⟩
    obtain ⟨L1, hL1⟩ : ∃ x, ((kid 1).code l kn).length = x := ⟨_, rfl⟩
    obtain ⟨L2, hL2⟩ : ∃ x, ((kid 2).code l kn).length = x := ⟨_, rfl⟩
    obtain ⟨L3, hL3⟩ : ∃ x, ((kid 3).code l kn).length = x := ⟨_, rfl⟩
    have hend : i + ((kid 0).code l kn ++ ((kid 1).code l kn ++ (⟨15, n + 4 * (((kid 2).code l kn).length + 1 : Nat)⟩ :: ((kid 2).code l kn ++ (⟨14, (((kid 3).code l kn).length : Nat)⟩ :: (kid 3).code l kn))))).length = i + L0 + L1 + 1 + L2 + 1 + L3 := by simp [hL0, hL1, hL2, hL3]; omega
    rw [hend] at hopen hfree ⊢
    rw [hL0] at c0 c1 c2 c3 hT hJ q0 hPl
    rw [hL1] at c1 c2 c3 hT hJ q1 hPl
    rw [hL2] at c2 c3 hT hJ q2 hPl
    rw [hL3] at c3 hJ q3 hPl
    have hzt : (n + 4 * ((L2 + 1 : Nat) : Int)).tmod 4 = n := by rw [Int.tmod_eq_emod_of_nonneg (by omega)]; omega
    have hzq : (n + 4 * ((L2 + 1 : Nat) : Int)).tdiv 4 = ((L2 + 1 : Nat) : Int) := by rw [Int.tdiv_eq_ediv_of_nonneg (by omega)]; omega
    have hzd : (furI 15 (n + 4 * ((L2 + 1 : Nat) : Int))).toNat = L2 + 1 := by
     unfold furI
     rw [if_neg (by decide), if_pos rfl, hzq, Int.toNat_natCast]
    have p0 := c0 d hd hS (fun t a b => hfree t a (by omega)) ((hfree _ (by omega) (by omega)).open _ _)
    have p1 := c1 (d + 1) (by omega) p0.at_ (fun t a b => (hfree t (by omega) (by omega)).far p0 a) (((hfree _ (by omega) (by omega)).far p0 (by omega)).open _ _)
    rw [show d + 1 + 1 = d + 2 by omega] at p1
    have hTf : fitsB 15 (n + 4 * ((L2 + 1 : Nat) : Int)) lines n1 n2 n3 P.length (i + L0 + L1) = true := by
     unfold fitsB
     rw [if_neg (by decide), if_pos rfl]
     unfold testB lowB
     rw [hzt, hzq, decide_eq_true (by omega), decide_eq_true (by omega), decide_eq_true (by omega)]
     rfl
    have hJf : fitsB 14 (L3 : Int) lines n1 n2 n3 P.length (i + L0 + L1 + 1 + L2) = true := by
     unfold fitsB
     rw [if_pos rfl]
     unfold jumpB lowB
     exact decide_eq_true (by omega)
    have hp := pass_if p0 p1 (by omega) hfree hopen hd hT hzd hTf hJ hJf ⟨q2, q3⟩ (fun a b c' => c2 d hd a b c') (fun a b c' => c3 d hd a b c')
    exact hp.upto (by unfold maxI; (repeat' split) <;> omega)
end Go.Proofs.YtmlpedgcpffpnaaGreatDoor
set_option linter.unusedSimpArgs false
namespace Go.Proofs.YtmlpedgcpffpnaaGreatDoor
open Go.RowKit
theorem linesC_pre {l : List Ln} {kn : Kn} : ∀ {n j : Nat}, j ≤ n → ∃ r, linesC l kn n = linesC l kn j ++ r
 | 0, j, hj => by obtain rfl : j = 0 := by omega
                  exact ⟨[], rfl⟩
 | n + 1, j, hj => by
   by_cases e : j = n + 1
   ·subst e; exact ⟨[], by simp⟩
   ·obtain ⟨r, hr⟩ := linesC_pre (l := l) (kn := kn) (n := n) (j := j) (by omega)
    exact ⟨r ++ ((lnth l n).ex.code l kn ++ [⟨16, (n : Int)⟩]), by rw [linesC, hr, List.append_assoc]⟩
theorem linesC_seg {l : List Ln} {kn : Kn} {n j : Nat} (hj : j < n) : Seg (linesC l kn n) (linesC l kn j).length ((lnth l j).ex.code l kn ++ [⟨16, (j : Int)⟩]) := by
 obtain ⟨r, hr⟩ := linesC_pre (l := l) (kn := kn) (n := n) (j := j + 1) (by omega)
 rw [hr]
 have h0 : Seg ((linesC l kn j ++ ((lnth l j).ex.code l kn ++ [⟨16, (j : Int)⟩])) ++ r) 0 ((linesC l kn j ++ ((lnth l j).ex.code l kn ++ [⟨16, (j : Int)⟩])) ++ r) := ⟨by omega, fun t _ => by rw [Nat.zero_add]⟩
 have h1 := h0.left.right
 rw [Nat.zero_add] at h1
 exact h1
theorem lines_reach {l : List Ln} {kn : Kn} (h : LinesOk l kn) : ∀ j, j ≤ l.length → ∀ vs b, linesV l kn j = (vs, b) →
 (b = true → vs.length = j ∧ ∃ (Q V : Nat → Int), MReach kn (linesC l kn l.length) ms0 ⟨(linesC l kn j).length, 0, Q, V⟩ ∧ ∀ p, p < vs.length → V p = vs.getD p 0) ∧
 (b = false → ∃ t, MReach kn (linesC l kn l.length) ms0 t ∧ t.at_ < (linesC l kn l.length).length ∧ mstep kn (bnth (linesC l kn l.length) t.at_) t = none)
 | 0, _, vs, b, e => by
   simp only [linesV] at e
   injection e with e1 e2
   subst e1 e2
   exact ⟨fun _ => ⟨rfl, _, _, .refl _, fun p hp => by simp at hp⟩, fun h => by cases h⟩
 | j + 1, hj, vs, b, e => by
   obtain ⟨⟨ws, c⟩, hw⟩ : ∃ x, linesV l kn j = x := ⟨_, rfl⟩
   have ih := lines_reach h j (by omega) ws c hw
   simp only [linesV, hw] at e
   cases c with
   | false =>
     simp only [] at e
     injection e with e1 e2
     subst e1 e2
     exact ⟨fun h => (by cases h), fun _ => ih.2 rfl⟩
   | true =>
     obtain ⟨hl, Q, V, hre, hV⟩ := ih.1 rfl
     subst hl
     have hseg := linesC_seg (l := l) (kn := kn) (n := l.length) (j := ws.length) (by omega)
     have hfit := (h.fit (j := ws.length) (by omega))
     have hc := code_comes (P := linesC l kn l.length) (V := V) (vs := ws) hV _ (Ex.fit.mono (fun s hs => hs.1) (fun _ _ => trivial) _ hfit) _ 0 Q hseg.left
     simp only [] at e
     cases hv : (lnth l ws.length).ex.val l kn ws with
     | none =>
       rw [hv] at hc e
       obtain ⟨t, k1, k2, k3⟩ := hc
       simp only [] at e
       injection e with e1 e2
       subst e1 e2
       exact ⟨fun h => (by cases h), fun _ => ⟨t, hre.trans k1, k2, k3⟩⟩
     | some v =>
       rw [hv] at hc e
       obtain ⟨Q', _, g2, g3⟩ := hc
       simp only [] at e g2 g3
       injection e with e1 e2
       subst e1 e2
       refine ⟨fun _ => ⟨by simp, ?_⟩, fun h => by cases h⟩
       have hk := hseg.right.head
       have hst : mstep kn (bnth (linesC l kn l.length) ((linesC l kn ws.length).length + ((lnth l ws.length).ex.code l kn).length)) ⟨(linesC l kn ws.length).length + ((lnth l ws.length).ex.code l kn).length, 0 + 1, Q', V⟩ = some ⟨(linesC l kn (ws.length + 1)).length, 0, Q', updF V ws.length v⟩ := by
        rw [hk.2]
        unfold mstep
        simp only []
        rw [if_neg (by decide), if_neg (by decide), if_pos (by decide), Int.toNat_natCast]
        have e3 : (linesC l kn (ws.length + 1)).length = (linesC l kn ws.length).length + ((lnth l ws.length).ex.code l kn).length + 1 := by
         rw [linesC, List.length_append, List.length_append]; simp; omega
        rw [e3]
        simp only [Nat.zero_add, Nat.sub_self]
        rw [g2]
       refine ⟨Q', updF V ws.length v, .step (hre.trans g3) hk.1 hst, fun p hp => ?_⟩
       unfold updF
       by_cases hpe : p = ws.length
       ·subst hpe
        rw [if_pos rfl]
        simp [List.getD_eq_getElem?_getD]
       ·rw [if_neg hpe]
        have hp' : p < ws.length := by simp at hp; omega
        rw [hV p hp', List.getD_eq_getElem?_getD, List.getD_eq_getElem?_getD, List.getElem?_append_left hp']
theorem lines_pass {l : List Ln} {kn : Kn} (h : LinesOk l kn) : ∀ j, j ≤ l.length →
 ∃ k : Nat, (∀ p, k.testBit p = decide (p < j)) ∧ ckS (linesC l kn l.length) (linesC l kn j).length (linesC l kn j).length = ⟨0, k, true, false⟩ ∧ (∀ t, (linesC l kn j).length < t → Free (ckS (linesC l kn l.length) (linesC l kn j).length) t) ∧
 (∀ i, i < (linesC l kn j).length → ckE (linesC l kn l.length) (l.length : Int) kn.ins.length kn.tbs.length kn.yrs.length i = 0) ∧ ckM (linesC l kn l.length) (linesC l kn j).length ≤ 20
 | 0, _ => by
   refine ⟨0, fun p => by simp, ?_, fun t ht => ?_, fun i hi => by simp [linesC] at hi, by show (0 : Int) ≤ 20; omega⟩
   ·show rchS noS 0 0 0 0 = _
    rw [rch_at]
    rfl
   ·show (rchS noS 0 0 0 t).r = false ∧ (rchS noS 0 0 0 t).h = false
    have ht' : 0 < t := ht
    rw [rch_ne _ _ _ (by omega)]
    exact ⟨rfl, rfl⟩
 | j + 1, hj => by
   obtain ⟨k, hk, hS, hF, hE, hM⟩ := lines_pass h j (by omega)
   have hseg := linesC_seg (l := l) (kn := kn) (n := l.length) (j := j) (by omega)
   have hfit := h.fit (j := j) (by omega)
   have hpos := code_pos (l := l) (kn := kn) _ hfit
   have hp := code_passes (P := linesC l kn l.length) (lines := (l.length : Int)) (c := j) (k := k) rfl rfl rfl (by omega) (fun p hp => by rw [hk, decide_eq_true hp]) _ hfit _ 0 (by omega) hseg.left hS (fun t a _ => hF t a) ((hF _ (by omega)).open _ _)
   have hkeep := hseg.right.head
   have e3 : (linesC l kn (j + 1)).length = (linesC l kn j).length + ((lnth l j).ex.code l kn).length + 1 := by
    rw [linesC, List.length_append, List.length_append]; simp; omega
   have hdep : (lnth l j).ex.depth ≤ 20 := by
    have h0 := h.err
    unfold linesE at h0
    split at h0
    ·cases h0
    ·rename_i hc
     have h1 : maxD l l.length ≤ 20 := by omega
     have h2 : ∀ n, j < n → (lnth l j).ex.depth ≤ maxD l n := fun n hn => by
      induction n with
      | zero => omega
      | succ n ih =>
        have e4 : maxD l (n + 1) = max (maxD l n) (lnth l n).ex.depth := rfl
        rw [e4]
        by_cases e : j = n
        ·subst e; omega
        ·have := ih (by omega); omega
     have := h2 l.length (by omega)
     omega
   have hnd : nxD (0 + 1) 16 = 0 := by unfold nxD; have e1 : laysOf ((16 : Nat) : Int) = 0 := (by decide); have e2 : takesOf ((16 : Nat) : Int) = 1 := (by decide); omega
   have hnk : nxK k 16 (j : Int) = k ||| 2 ^ j := by unfold nxK; rw [if_pos rfl, Int.toNat_natCast]
   have hbit : k.testBit j = false := by rw [hk]; simp
   have hst := pass_step (lines := (l.length : Int)) (n1 := kn.ins.length) (n2 := kn.tbs.length) (n3 := kn.yrs.length) (q := 16) (z := (j : Int)) hkeep (by decide) (by decide) (by decide) (by decide) hp.at_ (by simp [fitsB, fitB, lowB]; omega) (by
    unfold allowB
    rw [if_neg (by have : takesOf ((16 : Nat) : Int) = 1 := (by decide); omega), if_neg (by decide), if_pos rfl, Int.toNat_natCast, hbit]
    rfl) (((hF _ (by omega)).far hp (by omega)).open _ _)
   rw [hnd, hnk] at hst
   rw [e3]
   refine ⟨k ||| 2 ^ j, fun p => ?_, hst.at_, fun t ht => ?_, fun i hi => ?_, ?_⟩
   ·rw [Nat.testBit_or, hk, Nat.testBit_two_pow]
    by_cases e : p = j
    ·subst e; simp
    ·by_cases e2 : p < j
     ·simp [e2, show p < j + 1 by omega]
     ·simp [e2, show ¬ p < j + 1 by omega, Ne.symm e]
   ·exact ((hF t (by omega)).far hp (by omega)).far hst (by omega)
   ·by_cases e : i < (linesC l kn j).length
    ·exact hE i e
    ·by_cases e2 : i < (linesC l kn j).length + ((lnth l j).ex.code l kn).length
     ·exact hp.ok i (by omega) e2
     ·exact hst.ok i (by omega) (by omega)
   ·have m1 := hp.most
    have m2 := hst.most
    unfold maxI at m1 m2
    split at m1 <;> split at m2 <;> omega
theorem bits_all {k j : Nat} (h : ∀ p, k.testBit p = decide (p < j)) : k = 2 ^ j - 1 := by
 refine Nat.eq_of_testBit_eq fun p => ?_
 rw [h, Nat.testBit_two_pow_sub_one]
theorem firstE_none {f : Nat → Int} : ∀ {m : Nat}, (∀ j, j < m → f j = 0) → firstE f m = 0
 | 0, _ => rfl
 | m + 1, h => by
   have h1 := firstE_none (f := f) (m := m) (fun j hj => h j (by omega))
   simp [firstE, h1, h m (by omega)]
theorem lines_check {l : List Ln} {kn : Kn} (h : LinesOk l kn) : chkE kn (linesC l kn l.length) (l.length : Int) = 0 ∧ chkN kn (linesC l kn l.length) (l.length : Int) ≤ 20 ∧ (linesC l kn l.length).length ≤ 10000 := by
 obtain ⟨k, hk, hS, hF, hE, hM⟩ := lines_pass h l.length (Nat.le_refl _)
 have hlen := linesC_len h l.length (Nat.le_refl _)
 have h40 := linesE_40 h.err
 have hsum : sumP l l.length ≤ 4000 := by
  have h0 := h.err
  unfold linesE at h0
  split at h0
  ·cases h0
  ·omega
 have hc : chkE kn (linesC l kn l.length) (l.length : Int) = 0 := by
  unfold chkE
  have hend : ckEnd (linesC l kn l.length) (l.length : Int) = true := by
   unfold ckEnd
   rw [hS]
   have := bits_all hk
   simp [← this]
  rw [if_neg (by omega), if_neg (by rw [h.known]; decide), firstE_none hE, if_neg (by decide), if_pos hend]
 refine ⟨hc, ?_, by omega⟩
 unfold chkN
 rw [if_pos hc]
 exact hM
theorem lines_fin {l : List Ln} {kn : Kn} (h : LinesOk l kn) {s : MS} (hr : MReach kn (linesC l kn l.length) ms0 s) (hf : Fin kn (linesC l kn l.length) s) :
 (s.at_ = (linesC l kn l.length).length ∧ ∃ vs, linesV l kn l.length = (vs, true) ∧ vs.length = l.length ∧ ∀ p, p < vs.length → s.V p = vs.getD p 0) ∨
 (s.at_ < (linesC l kn l.length).length ∧ mstep kn (bnth (linesC l kn l.length) s.at_) s = none ∧ ∃ vs, linesV l kn l.length = (vs, false)) := by
 obtain ⟨⟨vs, b⟩, hv⟩ : ∃ x, linesV l kn l.length = x := ⟨_, rfl⟩
 have hl := lines_reach h l.length (Nat.le_refl _) vs b hv
 cases b with
 | true =>
   obtain ⟨h1, Q, V, h2, h3⟩ := hl.1 rfl
   have := hr.one h2 hf (.inl rfl)
   subst this
   exact .inl ⟨rfl, vs, hv, h1, h3⟩
 | false =>
   obtain ⟨t, h1, h2, h3⟩ := hl.2 rfl
   have := hr.one h1 hf (.inr ⟨h2, h3⟩)
   subst this
   exact .inr ⟨h2, h3, vs, hv⟩
end Go.Proofs.YtmlpedgcpffpnaaGreatDoor
