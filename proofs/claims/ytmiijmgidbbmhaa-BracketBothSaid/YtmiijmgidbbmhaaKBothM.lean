/-
  Promise G5, plain mathematics: of both tables together the rate is both rates, and the tax one unit off both taxes at most.
-/
import Derived.Test.YtmiijmgidbbmhaaKBoth
namespace Go.Proofs.Ytmiijmgidbbmhaa
open Go.RowKit

theorem frm_mono {l : List Bk} (h : Right l) {i : Nat} : ∀ d, i + d < l.length → (bnth l i).frm + d ≤ (bnth l (i + d)).frm
  | 0, _ => by simp
  | d + 1, hd => by
    have ih := frm_mono h (i := i) d (by omega)
    have := right_up h (j := i + d) (by omega)
    rw [← Nat.add_assoc]
    omega
theorem rU_stay {l : List Bk} (h : Right l) {base : Int} {i : Nat} (h1 : (bnth l i).frm < base) (h2 : i + 1 < l.length → base ≤ (bnth l (i + 1)).frm) : ∀ d, i + 1 + d ≤ l.length → rU l base (i + 1 + d) = (bnth l i).rate
  | 0, _ => by simp only [rU]; rw [if_pos h1]
  | d + 1, hd => by
    have ih := rU_stay h h1 h2 d (by omega)
    have hm := frm_mono h (i := i + 1) d (by omega)
    have hb := h2 (by omega)
    rw [← Nat.add_assoc]
    simp only [rU]
    rw [if_neg (by omega)]
    exact ih
theorem rate_is {l : List Bk} (h : Right l) {base : Int} {i : Nat} (hi : i < l.length) (h1 : (bnth l i).frm < base) (h2 : i + 1 < l.length → base ≤ (bnth l (i + 1)).frm) : rateN l base = (bnth l i).rate := by
  have := rU_stay h h1 h2 (l.length - (i + 1)) (by omega)
  rw [show i + 1 + (l.length - (i + 1)) = l.length by omega] at this
  exact this
theorem last_below {l : List Bk} (h : Right l) {base : Int} (hb : 1 ≤ base) : ∃ i, i < l.length ∧ (bnth l i).frm < base ∧ (i + 1 < l.length → base ≤ (bnth l (i + 1)).frm) := by
  have key : ∀ k, 1 ≤ k → k ≤ l.length → ∃ i, i < k ∧ (bnth l i).frm < base ∧ (i + 1 < k → base ≤ (bnth l (i + 1)).frm) := by
    intro k
    induction k with
    | zero => intro h; omega
    | succ k ih =>
      intro _ hk
      by_cases h0 : k = 0
      · subst h0
        exact ⟨0, by omega, by rw [h.2.2.2.1]; omega, fun h => by omega⟩
      · by_cases hc : (bnth l k).frm < base
        · exact ⟨k, by omega, hc, fun h => by omega⟩
        · obtain ⟨i, hi, h1, h2⟩ := ih (by omega) (by omega)
          refine ⟨i, by omega, h1, fun hh => ?_⟩
          by_cases e : i + 1 < k
          · exact h2 e
          · obtain rfl : i + 1 = k := by omega
            omega
  exact key l.length h.1 (Nat.le_refl _)
theorem rate_const {l : List Bk} (h : Right l) {x y : Int} (hx : 1 ≤ x) (hxy : x ≤ y) (hno : ∀ j, j < l.length → x ≤ (bnth l j).frm → y ≤ (bnth l j).frm) : rateN l x = rateN l y := by
  obtain ⟨i, hi, h1, h2⟩ := last_below h hx
  rw [rate_is h hi h1 h2, rate_is h (base := y) hi (by omega) (fun hh => hno _ hh (h2 hh))]
theorem rate_low {l : List Bk} (h : Right l) {base : Int} (hb : base ≤ 0) : rateN l base = (bnth l 0).rate := by
  have key : ∀ k, k ≤ l.length → rU l base k = (bnth l 0).rate := by
    intro k
    induction k with
    | zero => intro _; rfl
    | succ k ih =>
      intro hk
      have := right_nth h (j := k) (by omega)
      simp only [rU]
      rw [if_neg (by omega)]
      exact ih (by omega)
  exact key l.length (Nat.le_refl _)
theorem rate_one {l : List Bk} (h : Right l) : rateN l 1 = (bnth l 0).rate :=
  rate_is h (by have := h.1; omega) (by rw [h.2.2.2.1]; omega) (fun hh => by have := right_up h (j := 0) hh; rw [h.2.2.2.1] at this; exact this)
/-- Is there a rate that is too high? -/
def highB (l : List Bk) : Bool := l.any fun r => decide (10000 < r.rate)
theorem highB_nth {l : List Bk} (h : highB l = false) {j : Nat} (hj : j < l.length) : (bnth l j).rate ≤ 10000 := by
  have hm : bnth l j ∈ l := by
    unfold bnth
    rw [List.getD_eq_getElem?_getD, List.getElem?_eq_getElem hj]
    exact List.getElem_mem hj
  have := List.any_eq_false.1 h _ hm
  simp at this
  omega
theorem froms_up (l m : List Bk) {i j : Nat} (hij : i < j) (hj : j < (fromsL l m).length) : nth (fromsL l m) i < nth (fromsL l m) j := by
  have hp := (compact_rises (l.map Bk.frm ++ m.map Bk.frm)).2
  have hp' : (fromsL l m).Pairwise (· < ·) := hp
  generalize fromsL l m = F at *
  have := List.pairwise_iff_getElem.1 hp' i j (by omega) hj hij
  simpa [nth, List.getD_eq_getElem?_getD, show i < F.length by omega, hj] using this
theorem nth_of_mem {l : List Int} {x : Int} (h : x ∈ l) : ∃ j, j < l.length ∧ nth l j = x := by
  obtain ⟨j, hj, e⟩ := List.mem_iff_getElem.1 h
  exact ⟨j, hj, by simpa [nth, List.getD_eq_getElem?_getD, hj] using e⟩
theorem both_right {l m : List Bk} (hl : Right l) (hm : Right m) (hh : highB (bothL l m) = false) (h12 : (bothL l m).length ≤ 12) : Right (bothL l m) := by
  have h0 : (0 : Int) ∈ fromsL l m := (froms_mem l m 0).2 (.inl ⟨0, by have := hl.1; omega, hl.2.2.2.1⟩)
  obtain ⟨j0, hj0, e0⟩ := nth_of_mem h0
  have hpos : 0 < (fromsL l m).length := by omega
  refine ⟨by rw [both_len]; omega, h12, bksB_of fun j hj => ?_, ?_, upB_iff.2 fun j hj => ?_⟩
  · have hhi := highB_nth hh hj
    rw [both_len] at hj
    have hmn := froms_money hl hm hj
    have r1 := rU_bd hl (nth (fromsL l m) j + 1) l.length (Nat.le_refl _)
    have r2 := rU_bd hm (nth (fromsL l m) j + 1) m.length (Nat.le_refl _)
    have e := both_nth l m hj
    rw [e] at hhi ⊢
    refine bkB_iff.2 ⟨hmn.1, hmn.2, ?_, hhi⟩
    show 0 ≤ rU l _ l.length + rU m _ m.length
    omega
  · rw [both_nth l m hpos]
    show nth (fromsL l m) 0 = 0
    by_cases e : j0 = 0
    · subst e; exact e0
    · have h1 := froms_up l m (i := 0) (j := j0) (by omega) hj0
      have h2 := (froms_money hl hm hpos).1
      omega
  · rw [both_len] at hj
    rw [both_nth l m hj, both_nth l m (by omega)]
    exact froms_up l m (by omega) hj
/-- Of both tables together the rate is both rates. -/
theorem both_rate {l m : List Bk} (hl : Right l) (hm : Right m) (hr : Right (bothL l m)) (base : Int) : rateN (bothL l m) base = rateN l base + rateN m base := by
  have hb0 : (bnth (bothL l m) 0) = ⟨0, rateN l 1 + rateN m 1⟩ := by
    have hp : 0 < (fromsL l m).length := by rw [← both_len]; exact hr.1
    have e := both_nth l m hp
    have hz := hr.2.2.2.1
    rw [e] at hz ⊢
    simp only at hz
    rw [hz]
    rfl
  by_cases h1 : 1 ≤ base
  · obtain ⟨i, hi, g1, g2⟩ := last_below hr h1
    rw [rate_is hr hi g1 g2]
    have hi' := hi
    rw [both_len] at hi'
    have e := both_nth l m hi'
    rw [e] at g1 ⊢
    simp only at g1 ⊢
    have hmn := froms_money hl hm hi'
    have key : ∀ x, x ∈ fromsL l m → nth (fromsL l m) i + 1 ≤ x → base ≤ x := fun x hx hge => by
      obtain ⟨k, hk, rfl⟩ := nth_of_mem hx
      have hik : i < k := by
        by_cases c : i < k
        · exact c
        · by_cases e : k = i
          · subst e; omega
          · have := froms_up l m (i := k) (j := i) (by omega) hi'; omega
      have g2' := g2 (by rw [both_len]; omega)
      rw [both_nth l m (show i + 1 < (fromsL l m).length by omega)] at g2'
      simp only at g2'
      by_cases e : k = i + 1
      · subst e; exact g2'
      · have := froms_up l m (i := i + 1) (j := k) (by omega) hk; omega
    rw [rate_const hl (x := nth (fromsL l m) i + 1) (y := base) (by omega) (by omega) (fun j hj hge => key _ ((froms_mem l m _).2 (.inl ⟨j, hj, rfl⟩)) hge),
      rate_const hm (x := nth (fromsL l m) i + 1) (y := base) (by omega) (by omega) (fun j hj hge => key _ ((froms_mem l m _).2 (.inr ⟨j, hj, rfl⟩)) hge)]
  · rw [rate_low hr (by omega), rate_low hl (by omega), rate_low hm (by omega), hb0, rate_one hl, rate_one hm]
/-- A unit more of base has, of parts, its rate more. -/
theorem pP_rate {l : List Bk} (h : Right l) {base : Int} (hb0 : 0 ≤ base) : pP l (base + 1) l.length = pP l base l.length + rateN l (base + 1) := by
  obtain ⟨i, hi, h1, h2⟩ := last_below h (base := base + 1) (by omega)
  rw [rate_is h hi h1 h2]
  have key : ∀ k, k ≤ l.length → pP l (base + 1) k = pP l base k + (if i < k then (bnth l i).rate else 0) := by
    intro k
    induction k with
    | zero => intro _; simp [pP]
    | succ k ih =>
      intro hk
      have hih := ih (by omega)
      have t1 := hb_top h base (j := k) (by omega)
      have t2 := hb_top h (base + 1) (j := k) (by omega)
      have e1 : pP l base (k + 1) = pP l base k + (hb l base k - hb l base (k + 1)) * (bnth l k).rate := rfl
      have e2 : pP l (base + 1) (k + 1) = pP l (base + 1) k + (hb l (base + 1) k - hb l (base + 1) (k + 1)) * (bnth l k).rate := rfl
      rw [e1, e2, hih, ← t1, ← t2]
      by_cases c : k = i
      · subst c
        have d : max 0 ((if k + 1 < l.length then min (base + 1) (bnth l (k + 1)).frm else base + 1) - (bnth l k).frm) = max 0 ((if k + 1 < l.length then min base (bnth l (k + 1)).frm else base) - (bnth l k).frm) + 1 := by
          split
          · have := h2 ‹_›; omega
          · omega
        have i1 : (if k < k then (bnth l k).rate else 0) = 0 := if_neg (by omega)
        have i2 : (if k < k + 1 then (bnth l k).rate else 0) = (bnth l k).rate := if_pos (by omega)
        rw [d, i1, i2, Int.add_mul]
        omega
      · have d : max 0 ((if k + 1 < l.length then min (base + 1) (bnth l (k + 1)).frm else base + 1) - (bnth l k).frm) = max 0 ((if k + 1 < l.length then min base (bnth l (k + 1)).frm else base) - (bnth l k).frm) := by
          by_cases c2 : k < i
          · have hm := frm_mono h (i := k + 1) (i - (k + 1)) (by omega)
            rw [show k + 1 + (i - (k + 1)) = i by omega] at hm
            rw [if_pos (by omega), if_pos (by omega)]
            omega
          · have hm := frm_mono h (i := i + 1) (k - (i + 1)) (by omega)
            rw [show i + 1 + (k - (i + 1)) = k by omega] at hm
            have := h2 (by omega)
            split <;> omega
        rw [d]
        have : (i < k + 1) ↔ (i < k) := by omega
        simp only [this]
        omega
  have := key l.length (Nat.le_refl _)
  rw [if_pos hi] at this
  exact this
theorem pP_low {l : List Bk} (h : Right l) {base : Int} (hb' : base ≤ 0) : pP l base l.length = 0 := by
  have := pP_bd h (base := base) l.length (Nat.le_refl _)
  rw [hb_end, hb_zero h] at this
  omega
theorem both_parts {l m : List Bk} (hl : Right l) (hm : Right m) (hr : Right (bothL l m)) (base : Int) : pP (bothL l m) base (bothL l m).length = pP l base l.length + pP m base m.length := by
  by_cases h0 : base ≤ 0
  · rw [pP_low hl h0, pP_low hm h0, pP_low hr h0]; omega
  · obtain ⟨n, rfl⟩ : ∃ n : Nat, base = (n : Int) := ⟨base.toNat, by omega⟩
    clear h0
    induction n with
    | zero => rw [pP_low hl (by simp), pP_low hm (by simp), pP_low hr (by simp)]; omega
    | succ n ih =>
      have e : ((n + 1 : Nat) : Int) = (n : Int) + 1 := by omega
      rw [e, pP_rate hr (by omega), pP_rate hl (by omega), pP_rate hm (by omega), ih, both_rate hl hm hr]
      omega
theorem both_tax {l m : List Bk} (hl : Right l) (hm : Right m) (hr : Right (bothL l m)) (base : Int) : -1 ≤ taxN l base + taxN m base - taxN (bothL l m) base ∧ taxN l base + taxN m base - taxN (bothL l m) base ≤ 1 := by
  have hp := both_parts hl hm hr base
  have r1 := rd_half (pP l base l.length) 10000 5 (by omega) (.inl rfl)
  have r2 := rd_half (pP m base m.length) 10000 5 (by omega) (.inl rfl)
  have r3 := rd_half (pP (bothL l m) base (bothL l m).length) 10000 5 (by omega) (.inl rfl)
  unfold taxN
  omega
end Go.Proofs.Ytmiijmgidbbmhaa
