/-
  Promise D3: stretches: what they are, and that there is one list of them alone. A stretch is told as a row (frm: From, seen: To, val: Value, gone: Some).
-/
import Derived.Test.YtjokgohnpnhhdaaHNext
namespace Go.Proofs.Ytjokgohnpnhhdaa
open Go.RowKit

theorem snoc_old (l : List Rw) (r : Rw) {k : Nat} (hk : k < l.length) : rnth (l ++ [r]) k = rnth l k := by
  unfold rnth
  rw [List.getD_eq_getElem?_getD, List.getD_eq_getElem?_getD, List.getElem?_append_left hk]
theorem snoc_new (l : List Rw) (r : Rw) : rnth (l ++ [r]) l.length = r := by
  unfold rnth
  rw [List.getD_eq_getElem?_getD, List.getElem?_append_right (Nat.le_refl _)]
  simp
/-- What holds at a day. -/
def hvD (l : List Rw) (s d : Int) : Int × Bool := (atV (best l d s l.length), atS (best l d s l.length))
/-- Where the stretch with the number k must begin. -/
def endOf (f : Int) (L : List Rw) : Nat → Int
  | 0 => f
  | k + 1 => (rnth L k).seen + 1
/-- L are the stretches from the day f on, up to ahead of the day d. -/
def Str (V : Int → Int × Bool) (f : Int) (L : List Rw) (d : Int) : Prop :=
  (∀ i, i < L.length → (rnth L i).frm = endOf f L i ∧ (rnth L i).frm ≤ (rnth L i).seen ∧ (∀ j, (rnth L i).frm ≤ j → j ≤ (rnth L i).seen → V j = ((rnth L i).val, (rnth L i).gone)) ∧ ∀ k, i = k + 1 → ((rnth L k).val, (rnth L k).gone) ≠ ((rnth L i).val, (rnth L i).gone)) ∧ endOf f L L.length = d
theorem endOf_old (f : Int) (l : List Rw) (r : Rw) : ∀ k, k ≤ l.length → endOf f (l ++ [r]) k = endOf f l k
  | 0, _ => rfl
  | k + 1, h => by rw [endOf, endOf, snoc_old l r (by omega)]
theorem Str.at {V : Int → Int × Bool} {f d d' : Int} {L : List Rw} (h : Str V f L d) (e : d = d') : Str V f L d' := by rw [← e]; exact h
theorem Str.nil (V : Int → Int × Bool) (f : Int) : Str V f [] f := ⟨fun i hi => absurd hi (by simp), rfl⟩
theorem Str.snoc {V : Int → Int × Bool} {f d : Int} {L : List Rw} (h : Str V f L d) (x : Rw) (h1 : x.frm = d) (h2 : x.frm ≤ x.seen) (h3 : ∀ j, x.frm ≤ j → j ≤ x.seen → V j = (x.val, x.gone)) (h4 : ∀ k, L.length = k + 1 → ((rnth L k).val, (rnth L k).gone) ≠ (x.val, x.gone)) : Str V f (L ++ [x]) (x.seen + 1) := by
  refine ⟨fun i hi => ?_, ?_⟩
  · by_cases e : i < L.length
    · have := h.1 i e
      rw [snoc_old L x e, endOf_old f L x i (by omega)]
      refine ⟨this.1, this.2.1, this.2.2.1, fun k hk => ?_⟩
      rw [snoc_old L x (by omega)]
      exact this.2.2.2 k hk
    · have e : i = L.length := by simp at hi; omega
      subst e
      rw [snoc_new, endOf_old f L x _ (Nat.le_refl _), h.2]
      refine ⟨h1, h2, h3, fun k hk => ?_⟩
      rw [snoc_old L x (by omega)]
      exact h4 k hk
  · rw [List.length_append]
    show (rnth (L ++ [x]) L.length).seen + 1 = _
    rw [snoc_new]
theorem Str.init {V : Int → Int × Bool} {f d : Int} {L : List Rw} {x : Rw} (h : Str V f (L ++ [x]) d) : Str V f L x.frm ∧ x.frm ≤ x.seen ∧ (∀ j, x.frm ≤ j → j ≤ x.seen → V j = (x.val, x.gone)) ∧ (∀ k, L.length = k + 1 → ((rnth L k).val, (rnth L k).gone) ≠ (x.val, x.gone)) ∧ d = x.seen + 1 := by
  have hx := h.1 L.length (by simp)
  rw [snoc_new, endOf_old f L x _ (Nat.le_refl _)] at hx
  refine ⟨⟨fun i hi => ?_, hx.1.symm⟩, hx.2.1, hx.2.2.1, fun k hk => ?_, ?_⟩
  · have := h.1 i (by simp; omega)
    rw [snoc_old L x hi, endOf_old f L x i (by omega)] at this
    refine ⟨this.1, this.2.1, this.2.2.1, fun k hk => ?_⟩
    have h5 := this.2.2.2 k hk
    rwa [snoc_old L x (by omega)] at h5
  · have h5 := hx.2.2.2 k hk
    rwa [snoc_old L x (by omega)] at h5
  · have := h.2
    rw [List.length_append] at this
    have e : endOf f (L ++ [x]) (L.length + 1) = x.seen + 1 := by rw [endOf, snoc_new]
    rw [← this]
    exact e
theorem snoc_or (L : List Rw) : L = [] ∨ ∃ M x, L = M ++ [x] := by
  rcases List.eq_nil_or_concat L with h | ⟨M, x, h⟩
  · exact .inl h
  · exact .inr ⟨M, x, by rw [h, List.concat_eq_append]⟩
theorem Str.len {V : Int → Int × Bool} {f : Int} : ∀ (n : Nat) (L : List Rw) (d : Int), L.length = n → Str V f L d → f + (n : Int) ≤ d
  | 0, L, d, hn, h => by
    have : L = [] := List.eq_nil_of_length_eq_zero hn
    subst this
    have := h.2
    simp [endOf] at this
    omega
  | n + 1, L, d, hn, h => by
    rcases snoc_or L with rfl | ⟨M, x, rfl⟩
    · simp at hn
    · obtain ⟨h1, h2, _, _, h5⟩ := h.init
      have := Str.len n M x.frm (by simpa using hn) h1
      omega
theorem Str.unique {V : Int → Int × Bool} {f : Int} : ∀ (n : Nat) (L M : List Rw) (d : Int), L.length = n → Str V f L d → Str V f M d → L = M
  | 0, L, M, d, hn, h, h' => by
    have : L = [] := List.eq_nil_of_length_eq_zero hn
    subst this
    have e : f = d := h.2
    have := Str.len M.length M d rfl h'
    exact (List.eq_nil_of_length_eq_zero (by omega)).symm
  | n + 1, L, M, d, hn, h, h' => by
    rcases snoc_or L with rfl | ⟨L, x, rfl⟩
    · simp at hn
    rcases snoc_or M with rfl | ⟨M, y, rfl⟩
    · have e : f = d := h'.2
      have := Str.len _ _ _ rfl h
      rw [hn] at this
      omega
    obtain ⟨a1, a2, a3, a4, a5⟩ := h.init
    obtain ⟨b1, b2, b3, b4, b5⟩ := h'.init
    have hs : x.seen = y.seen := by omega
    have hv : (x.val, x.gone) = (y.val, y.gone) := (a3 x.seen a2 (Int.le_refl _)).symm.trans (by rw [hs]; exact b3 y.seen b2 (Int.le_refl _))
    have key : ∀ (L M : List Rw) (x y : Rw), Str V f L x.frm → Str V f M y.frm → x.frm ≤ x.seen → (∀ j, x.frm ≤ j → j ≤ x.seen → V j = (x.val, x.gone)) → (∀ k, M.length = k + 1 → ((rnth M k).val, (rnth M k).gone) ≠ (y.val, y.gone)) → y.frm ≤ x.seen → (x.val, x.gone) = (y.val, y.gone) → ¬ x.frm < y.frm := by
      intro L M x y a1 b1 a2 a3 b4 hle hv hlt
      rcases snoc_or M with rfl | ⟨M, z, rfl⟩
      · have e : f = y.frm := b1.2
        have := Str.len _ _ _ rfl a1
        omega
      · obtain ⟨_, c2, c3, _, c5⟩ := b1.init
        have h1 := c3 z.seen c2 (Int.le_refl _)
        have h2 := a3 z.seen (by omega) (by omega)
        refine b4 M.length (by simp) ?_
        rw [snoc_new, ← h1, h2, hv]
    have hf : x.frm = y.frm := by
      have h1 := key L M x y a1 b1 a2 a3 b4 (by omega) hv
      have h2 := key M L y x b1 a1 b2 b3 a4 (by omega) hv.symm
      omega
    have hxy : x = y := by
      obtain ⟨f1, s1, v1, g1⟩ := x
      obtain ⟨f2, s2, v2, g2⟩ := y
      simp only [Prod.mk.injEq] at hv hf hs
      simp only [hf, hs, hv.1, hv.2]
    subst hxy
    rw [Str.unique n L M x.frm (by simpa using hn) a1 b1]
/-- Nothing changes where no row begins. -/
theorem hvD_still {l : List Rw} {s x y : Int} (hxy : x ≤ y) (h : ∀ j, j < l.length → (rnth l j).frm ≤ x ∨ y < (rnth l j).frm) : hvD l s y = hvD l s x := by
  unfold hvD
  rw [best_still l s x y hxy _ (Nat.le_refl _) h]
end Go.Proofs.Ytjokgohnpnhhdaa
