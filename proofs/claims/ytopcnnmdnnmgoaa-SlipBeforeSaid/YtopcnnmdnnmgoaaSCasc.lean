/-
  Promise R5: what is void one after the other; whose totals change.
-/
import Derived.Test.YtopcnnmdnnmgoaaSTot
namespace Go.Proofs.Ytopcnnmdnnmgoaa
open Go.RowKit Go.Sort

theorem slW_gone (r : Sl) : slW (goneS r) = slW r := rfl
theorem vd_fields {l : List Sl} {p : Int} {d j : Nat} (hj : j < l.length) : (snth (vd l p d) j).num = (snth l j).num ∧ (snth (vd l p d) j).per = (snth l j).per ∧ (snth (vd l p d) j).tot = (snth l j).tot ∧ slW (snth (vd l p d) j) = slW (snth l j) := by
  rw [snth_vd hj]
  split <;> exact ⟨rfl, rfl, rfl, rfl⟩
theorem slE_congr {a b : List Sl} (hl : a.length = b.length) (h : ∀ j, j < a.length → slW (snth a j) = slW (snth b j) ∧ (snth a j).num = (snth b j).num) : slE a = slE b := by
  have h1 : slsW a = slsW b := by
    by_cases hz : ∃ k, k < a.length ∧ (∀ j, j < k → slW (snth a j) = 0) ∧ slW (snth a k) ≠ 0
    · obtain ⟨k, hk, hj, hw⟩ := hz
      rw [slsW_at hj hk hw, slsW_at (l := b) (k := k) (fun j hj' => by rw [← (h j (by omega)).1]; exact hj j hj') (by omega) (by rw [← (h k hk).1]; exact hw), (h k hk).1]
    · have hall : ∀ m, ∀ j, j < m → j < a.length → slW (snth a j) = 0 := by
        intro m
        induction m with
        | zero => intro j hj; omega
        | succ m ih =>
          intro j hj hja
          by_cases e : slW (snth a j) = 0
          · exact e
          · exact absurd ⟨j, hja, fun i hi => ih i (by omega) (by omega), e⟩ hz
      rw [slsW_ok (fun j hj => hall (j + 1) j (by omega) hj), slsW_ok (fun j hj => by rw [← (h j (by omega)).1]; exact hall (j + 1) j (by omega) (by omega))]
  have h2 : upS a = upS b := by
    rw [Bool.eq_iff_iff, upS_iff, upS_iff, hl]
    constructor
    · intro q j hj
      have := q j hj
      rwa [(h j (by omega)).2, (h (j + 1) (by omega)).2] at this
    · intro q j hj
      rw [(h j (by omega)).2, (h (j + 1) (by omega)).2]
      exact q j hj
  unfold slE
  rw [hl, h1, h2]
theorem slE_vd (l : List Sl) (p : Int) (d : Nat) : slE (vd l p d) = slE l := slE_congr (vd_len _ _ _) fun j hj => by
  rw [vd_len] at hj
  exact ⟨(vd_fields hj).2.2.2, (vd_fields hj).1⟩
theorem up_lt {l : List Sl} (h : upS l = true) : ∀ {i j : Nat}, i < j → j < l.length → (snth l i).num < (snth l j).num := by
  intro i j hij hj
  obtain ⟨m, rfl⟩ : ∃ m, j = i + 1 + m := ⟨j - i - 1, by omega⟩
  induction m with
  | zero => exact upS_iff.1 h i (by omega)
  | succ m ih =>
    have h1 := ih (by omega) (by omega)
    have h2 := upS_iff.1 h (i + 1 + m) (by omega)
    have e : i + 1 + (m + 1) = i + 1 + m + 1 := by omega
    rw [e]
    omega
theorem fstN_self {l : List Sl} (h : upS l = true) {j : Nat} (hj : j < l.length) : fstN l (snth l j).num = j :=
  fstN_at (fun i hi e => by have := up_lt h hi hj; omega) hj rfl
theorem gn_same {l : List Sl} {p : Int} {d' d : Nat} (hd : d ≤ l.length) (hle : d' ≤ d) (h : ∀ j, d' ≤ j → j < d → mt p (snth l j) = false) : gn l p d' = gn l p d ∧ vd l p d' = vd l p d := by
  obtain ⟨m, rfl⟩ : ∃ m, d = d' + m := ⟨d - d', by omega⟩
  clear hle
  induction m generalizing d' with
  | zero => exact ⟨rfl, rfl⟩
  | succ m ih =>
    have h0 := h d' (Nat.le_refl _) (by omega)
    have := ih (d' := d' + 1) (by omega) (fun j h1 h2 => h j (by omega) (by omega))
    have e : d' + 1 + m = d' + (m + 1) := by omega
    rw [e] at this
    rw [gn_no (by omega) h0, vd_no h0]
    exact this
/-- The next one to become void, if there is one. -/
theorem gn_next {l : List Sl} {p : Int} {k : Nat} : ∀ {d : Nat}, k ≤ d → d ≤ l.length → (gn l p d).length < (gn l p k).length → ∃ d', k ≤ d' ∧ d' < d ∧ mt p (snth l d') = true ∧ ∀ j, d' < j → j < d → mt p (snth l j) = false := by
  intro d
  induction d with
  | zero =>
    intro hk _ h
    obtain rfl : k = 0 := by omega
    exact absurd h (Nat.lt_irrefl _)
  | succ d ih =>
    intro hk hd h
    by_cases e : k = d + 1
    · subst e; exact absurd h (Nat.lt_irrefl _)
    · by_cases hm : mt p (snth l d) = true
      · exact ⟨d, by omega, by omega, hm, fun j h1 h2 => by omega⟩
      · have hm' : mt p (snth l d) = false := by simpa using hm
        rw [← gn_no (by omega) hm'] at h
        obtain ⟨d', h1, h2, h3, h4⟩ := ih (by omega) (by omega) h
        refine ⟨d', h1, by omega, h3, fun j h5 h6 => ?_⟩
        by_cases e2 : j = d
        · subst e2; exact hm'
        · exact h4 j h5 (by omega)
theorem gn_prefix {l : List Sl} {p : Int} {k d : Nat} (hk : k ≤ d) (hd : d ≤ l.length) : ∃ t, gn l p k = gn l p d ++ t := by
  obtain ⟨m, rfl⟩ : ∃ m, d = k + m := ⟨d - k, by omega⟩
  clear hk
  induction m with
  | zero => exact ⟨[], by simp⟩
  | succ m ih =>
    obtain ⟨t, ht⟩ := ih (by omega)
    have e : k + (m + 1) = k + m + 1 := by omega
    rw [e]
    by_cases hm : mt p (snth l (k + m)) = true
    · rw [gn_yes (by omega) hm, List.append_assoc] at ht
      exact ⟨_, ht⟩
    · rw [gn_no (q := k + m) (by omega) (by simpa using hm)] at ht
      exact ⟨t, ht⟩
theorem vd_end {l : List Sl} {p : Int} {k d : Nat} (hk : k ≤ d) (hd : d ≤ l.length) (h : (gn l p d).length = (gn l p k).length) : vd l p d = vd l p k := by
  by_cases hn : ∀ j, k ≤ j → j < d → mt p (snth l j) = false
  · exact (gn_same hd hk hn).2.symm
  · exfalso
    apply hn
    intro j h1 h2
    cases hm : mt p (snth l j)
    · rfl
    · exfalso
      obtain ⟨t, ht⟩ := gn_prefix (l := l) (p := p) (k := j + 1) (d := d) (by omega) hd
      obtain ⟨s, hs⟩ := gn_prefix (l := l) (p := p) (k := k) (d := j) h1 (by omega)
      rw [gn_yes (by omega) hm, ht] at hs
      rw [hs] at h
      simp at h
/-- One void more. -/
theorem casc_step {l : List Sl} {p : Int} {d d' : Nat} (h0 : slE l = 0) (hd : d ≤ l.length) (hlt : d' < d) (hm : mt p (snth l d') = true) (hno : ∀ j, d' < j → j < d → mt p (snth l j) = false) :
    voidE (vd l p d) (snth l d').num false = 0 ∧ voidL (vd l p d) (snth l d').num = vd l p d' ∧ voidG (vd l p d) (snth l d').num = [(snth l d').num] ∧ gn l p d' = gn l p d ++ [(snth l d').num] := by
  have hd' : d' < l.length := by omega
  have hs : snth (vd l p d) d' = snth l d' := by rw [snth_vd hd', if_neg (by omega)]
  have hup : upS (vd l p d) = true := (slE_ok (by rw [slE_vd]; exact h0)).2.2
  have hf : fstN (vd l p d) (snth l d').num = d' := by
    have := fstN_self hup (j := d') (by rw [vd_len]; exact hd')
    rwa [hs] at this
  have hper : (snth l d').per = p := by
    unfold mt at hm
    simp at hm
    exact hm.1
  have hgo : (snth l d').gone = false := by
    unfold mt at hm
    simp at hm
    exact hm.2
  have hg1 : gn l p (d' + 1) = gn l p d := (gn_same hd (by omega) (fun j h1 h2 => hno j (by omega) h2)).1
  have hlater : ∀ j, d' < j → j < l.length → mt p (snth (vd l p d) j) = false := fun j h1 h2 => by
    rw [snth_vd h2]
    by_cases h3 : d ≤ j ∧ mt p (snth l j) = true
    · rw [if_pos h3]
      unfold mt goneS
      simp
    · rw [if_neg h3]
      by_cases h4 : j < d
      · exact hno j h1 h4
      · cases h5 : mt p (snth l j)
        · rfl
        · exact absurd ⟨by omega, h5⟩ h3
  have hg2 : gn (vd l p d) p d' = [(snth l d').num] := by
    rw [gn_yes (by rw [vd_len]; exact hd') (by rw [hs]; exact hm), hs]
    have := (gn_same (l := vd l p d) (p := p) (d' := d' + 1) (d := (vd l p d).length) (Nat.le_refl _) (by rw [vd_len]; omega) (fun j h1 h2 => hlater j (by omega) (by rw [vd_len] at h2; exact h2))).1
    rw [this, gn_all]
    rfl
  have hv2 : vd (vd l p d) p d' = vd l p d' := by
    refine snth_ext (by rw [vd_len, vd_len, vd_len]) fun j hj => ?_
    rw [vd_len, vd_len] at hj
    rw [snth_vd (l := vd l p d) (by rw [vd_len]; exact hj), snth_vd (l := l) (d := d') hj]
    by_cases h1 : d' ≤ j ∧ mt p (snth l j) = true
    · rw [if_pos h1]
      by_cases h2 : j = d'
      · subst h2
        rw [if_pos ⟨Nat.le_refl _, by rw [hs]; exact hm⟩, hs]
      · have h3 : d ≤ j := by
          by_cases h4 : j < d
          · have := hno j (by omega) h4; rw [this] at h1; exact absurd h1.2 (by simp)
          · omega
        rw [if_neg (fun q => by rw [hlater j (by omega) hj] at q; exact absurd q.2 (by simp)), snth_vd hj, if_pos ⟨h3, h1.2⟩]
    · rw [if_neg h1]
      have h2 : snth (vd l p d) j = snth l j := by
        rw [snth_vd hj, if_neg (fun q => h1 ⟨by omega, q.2⟩)]
      rw [h2, if_neg h1]
  refine ⟨?_, ?_, ?_, by rw [gn_yes hd' hm, hg1]⟩
  · unfold voidE
    rw [slE_vd, if_pos h0, hf, if_pos (by rw [vd_len]; exact hd'), hs, hgo, if_neg (by decide), hper, hg2, if_neg (by simp)]
  · unfold voidL
    rw [hf, hs, hper, hv2]
  · unfold voidG
    rw [hf, hs, hper, hg2]
/-- Somebody else's amounts stay. -/
theorem amsOf_other {l : List Sl} {p q : Int} {d : Nat} (hq : q ≠ p) : amsOf (vd l p d) q = amsOf l q := by
  have key : ∀ k, k ≤ l.length → amsOf ((vd l p d).take k) q = amsOf (l.take k) q := by
    intro k
    induction k with
    | zero => intro _; rfl
    | succ k ih =>
      intro hk
      have hkl : k < l.length := by omega
      rw [amsOf_step (by rw [vd_len]; exact hkl), amsOf_step hkl, ih (by omega)]
      congr 1
      rw [snth_vd hkl]
      by_cases h : d ≤ k ∧ mt p (snth l k) = true
      · rw [if_pos h]
        have e1 : (snth l k).per = p := by
          have := h.2
          unfold mt at this
          simp at this
          exact this.1
        have e2 : mt q (snth l k) = false := by unfold mt; rw [e1]; simp [Ne.symm hq]
        have e3 : mt q (goneS (snth l k)) = false := by unfold mt goneS; simp
        rw [e2, e3]
        rfl
      · rw [if_neg h]
  have := key l.length (Nat.le_refl _)
  rw [List.take_length] at this
  rw [← this]
  congr 1
  rw [← vd_len l p d, List.take_length]
/-- Two answers of Totals over the same amounts are the same. -/
theorem TotRet.det {w : World} {v u : Value} {er es : Int} {l m : List Sl} {p : Int} (h1 : TotRet w v er l p) (h2 : TotRet w u es m p) (hs : slE l = slE m) (ha : amsOf l p = amsOf m p) : er = es ∧ ∃ am, am.length ≤ 6000 ∧ AmsIn w v am ∧ AmsIn w u am := by
  rcases h1 with ⟨a1, a2, a3⟩ | ⟨a1, a2, a3, a4⟩ | ⟨a1, a2, am, a3, a4, a5⟩ <;> rcases h2 with ⟨b1, b2, b3⟩ | ⟨b1, b2, b3, b4⟩ | ⟨b1, b2, bm, b3, b4, b5⟩
  · exact ⟨by rw [a2, b2, hs], [], by simp, by rw [a3]; exact AmsIn.nil _, by rw [b3]; exact AmsIn.nil _⟩
  · exact absurd (hs.trans b1) a1
  · exact absurd (hs.trans b1) a1
  · exact absurd (hs.symm.trans a1) b1
  · exact ⟨by rw [a3, b3], [], by simp, by rw [a4]; exact AmsIn.nil _, by rw [b4]; exact AmsIn.nil _⟩
  · rw [a2] at b2; cases b2
  · exact absurd (hs.symm.trans a1) b1
  · rw [a2] at b2; cases b2
  · rw [ha] at a3
    have e := a3.unique b3
    subst e
    rcases a5 with ⟨c1, c2, c3⟩ | ⟨c1, c2, c3⟩ <;> rcases b5 with ⟨d1, d2, d3⟩ | ⟨d1, d2, d3⟩
    · exact ⟨by rw [c2, d2], [], by simp, by rw [c3]; exact AmsIn.nil _, by rw [d3]; exact AmsIn.nil _⟩
    · rw [c1] at d1; cases d1
    · rw [c1] at d1; cases d1
    · exact ⟨by rw [c2, d2], am, a4, c3, d3⟩
theorem asame_yes (v u : Value) (l : List Am) (w : World) (hl : l.length ≤ 6000) (hv : AmsIn w v l) (hu : AmsIn w u l) :
    Calls Try.prog 16 #[v, u] w fun e w' => e = .returned (.bool true) ∧ ∃ q, w' = w.drewN q := by
  obtain ⟨x, c, rfl, hv⟩ := hv
  obtain ⟨y, d, rfl, hu⟩ := hu
  exact sameAmounts_yes x y l.length c d l w hv hu rfl (by omega)
end Go.Proofs.Ytopcnnmdnnmgoaa
