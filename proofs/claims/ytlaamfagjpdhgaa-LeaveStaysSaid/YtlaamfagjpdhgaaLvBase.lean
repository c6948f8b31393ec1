/-
  Promise T: leave: months and how many of them have begun at a day; what is had from month to month; uses, and what stands behind them.
-/
import Derived.Test.YtlaamfagjpdhgaaCDay
import Derived.Lib.Hide
namespace Go.Proofs.Ytlaamfagjpdhgaa
open Go.RowKit

/-- The first day of the month with M months ahead of it. -/
def fm (M : Int) : Int := ys (M / 12).toNat + cumN (2000 + M / 12) (M % 12).toNat
theorem civil_at {M j : Int} (h0 : 0 ≤ M) (h1 : M < 2400) (hj0 : 0 ≤ j) (hj1 : j < md (2000 + M / 12) (M % 12 + 1)) : IsCivil (fm M + j) (M / 12).toNat (M % 12 + 1).toNat (j + 1) := by
  have e1 : (2000 + ((M / 12).toNat : Int)) = 2000 + M / 12 := by omega
  have e2 : (((M % 12 + 1).toNat : Nat) : Int) = M % 12 + 1 := by omega
  refine ⟨by omega, by omega, by omega, by omega, by rw [e1, e2]; omega, ?_⟩
  rw [e1, show (M % 12 + 1).toNat - 1 = (M % 12).toNat from by omega]
  unfold fm
  omega
theorem fm_next {M : Int} (h0 : 0 ≤ M) : fm (M + 1) = fm M + md (2000 + M / 12) (M % 12 + 1) := by
  unfold fm
  by_cases h : M % 12 = 11
  · have e1 : ((M + 1) / 12).toNat = (M / 12).toNat + 1 := by omega
    have e2 : ((M + 1) % 12).toNat = 0 := by omega
    have e3 : (M % 12).toNat = 11 := by omega
    rw [e1, e2, e3, ys, cumN, show (2000 + ((M / 12).toNat : Int)) = 2000 + M / 12 from by omega, ← cumN_12, h]
    show ys (M / 12).toNat + (cumN (2000 + M / 12) 11 + md (2000 + M / 12) (((11 : Nat) : Int) + 1)) + 0 = ys (M / 12).toNat + cumN (2000 + M / 12) 11 + md (2000 + M / 12) (11 + 1)
    rw [show (((11 : Nat) : Int) + 1) = 11 + 1 from rfl]
    omega
  · have e1 : ((M + 1) / 12).toNat = (M / 12).toNat := by omega
    have e2 : ((M + 1) % 12).toNat = (M % 12).toNat + 1 := by omega
    have e3 : (M + 1) / 12 = M / 12 := by omega
    rw [e1, e2, e3, cumN, show (((M % 12).toNat : Nat) : Int) = M % 12 from by omega]
    omega
theorem fm_end : fm 2400 = 73049 := by
  unfold fm
  rw [show ((2400 : Int) / 12).toNat = 200 from rfl, show ((2400 : Int) % 12).toNat = 0 from rfl, ys_200]
  rfl
/-- The first day of a month is its date's. -/
theorem fm_date {M : Int} (h0 : 0 ≤ M) (h1 : M < 2400) : dateB (2000 + M / 12) (M % 12 + 1) 1 = true ∧ dayN (2000 + M / 12) (M % 12 + 1) 1 = fm M := by
  have hm := md_bd (2000 + M / 12) (M % 12 + 1)
  refine ⟨dateB_iff.2 (by omega), ?_⟩
  unfold dayN fm
  rw [show (2000 + M / 12 - 2000) = M / 12 from by omega, show M % 12 + 1 - 1 = M % 12 from by omega]
  omega
theorem fm_lt {a b : Nat} (h : a < b) : fm (a : Int) < fm (b : Int) := by
  induction b with
  | zero => omega
  | succ b ih =>
    have e := fm_next (M := (b : Int)) (by omega)
    have hm := md_bd (2000 + (b : Int) / 12) ((b : Int) % 12 + 1)
    rw [show ((b + 1 : Nat) : Int) = (b : Int) + 1 from by omega]
    by_cases h' : a < b
    · have := ih h'; omega
    · have : a = b := by omega
      subst this; omega
theorem fm_le {a b : Nat} (h : a ≤ b) : fm (a : Int) ≤ fm (b : Int) := by
  by_cases e : a = b
  · subst e; omega
  · have := fm_lt (a := a) (b := b) (by omega); omega
theorem fm_bd {M : Nat} (h : M ≤ 2400) : 0 ≤ fm (M : Int) ∧ fm (M : Int) ≤ 73049 := by
  have h1 := fm_le (a := 0) (b := M) (by omega)
  have h2 := fm_le (a := M) (b := 2400) h
  have h3 : fm ((0 : Nat) : Int) = 0 := rfl
  have h4 : fm ((2400 : Nat) : Int) = 73049 := fm_end
  omega
/-- A date's month: as many as have begun, less one. -/
theorem civil_fm {A : Int} {k0 m0 : Nat} {d0 : Int} (h : IsCivil A k0 m0 d0) : A = fm ((12 * k0 + m0 - 1 : Nat) : Int) + (d0 - 1) ∧ 12 * k0 + m0 - 1 < 2400 ∧ 1 ≤ m0 ∧ m0 ≤ 12 ∧ 1 ≤ d0 ∧ A < fm ((12 * k0 + m0 : Nat) : Int) := by
  obtain ⟨hk, hm1, hm2, hd1, hd2, he⟩ := h
  have e0 : ((12 * k0 + m0 - 1 : Nat) : Int) = 12 * (k0 : Int) + (m0 : Int) - 1 := by omega
  have e1 : ((12 * k0 + m0 - 1 : Nat) : Int) / 12 = (k0 : Int) := by omega
  have e2 : ((12 * k0 + m0 - 1 : Nat) : Int) % 12 = (m0 : Int) - 1 := by omega
  have hA : A = fm ((12 * k0 + m0 - 1 : Nat) : Int) + (d0 - 1) := by
    unfold fm
    rw [e1, e2, show ((k0 : Int)).toNat = k0 from by omega, show ((m0 : Int) - 1).toNat = m0 - 1 from by omega]
    omega
  refine ⟨hA, by omega, hm1, hm2, hd1, ?_⟩
  have e := fm_next (M := ((12 * k0 + m0 - 1 : Nat) : Int)) (by omega)
  rw [e1, e2, show (m0 : Int) - 1 + 1 = (m0 : Int) from by omega] at e
  rw [show ((12 * k0 + m0 : Nat) : Int) = ((12 * k0 + m0 - 1 : Nat) : Int) + 1 from by omega, e]
  omega
/-- How many of the first k months have begun at a day. -/
def nmTo (d : Int) : Nat → Nat
  | 0 => 0
  | k + 1 => if fm (k : Int) ≤ d then k + 1 else nmTo d k
def nm (d : Int) : Nat := nmTo d 2400
theorem nmTo_le (d : Int) : ∀ k, nmTo d k ≤ k
  | 0 => Nat.le_refl _
  | k + 1 => by
    rw [nmTo]
    split
    · exact Nat.le_refl _
    · have := nmTo_le d k; omega
theorem nmTo_iff (d : Int) : ∀ k j, j < k → (j < nmTo d k ↔ fm (j : Int) ≤ d)
  | 0, j, h => by omega
  | k + 1, j, h => by
    rw [nmTo]
    split
    · rename_i hk
      have := fm_le (a := j) (b := k) (by omega)
      constructor
      · intro _; omega
      · intro _; omega
    · rename_i hk
      by_cases e : j = k
      · subst e
        have := nmTo_le d j
        constructor
        · intro _; omega
        · intro h'; exact absurd h' hk
      · exact nmTo_iff d k j (by omega)
theorem nm_le (d : Int) : nm d ≤ 2400 := nmTo_le d 2400
theorem nm_iff {d : Int} {j : Nat} (h : j < 2400) : j < nm d ↔ fm (j : Int) ≤ d := nmTo_iff d 2400 j h
/-- What is behind the first day of a month has it begun; what is ahead has not. -/
theorem nm_of {d : Int} {M : Nat} (h1 : M < 2400) (h2 : fm (M : Int) ≤ d) (h3 : d < fm ((M + 1 : Nat) : Int)) : nm d = M + 1 := by
  have a := (nm_iff (d := d) h1).2 h2
  have b := nm_le d
  by_cases e : M + 1 < 2400
  · have c : ¬ M + 1 < nm d := fun h => by have := (nm_iff e).1 h; omega
    omega
  · omega
theorem nm_fm {M : Nat} (h : M < 2400) : nm (fm (M : Int)) = M + 1 := nm_of h (Int.le_refl _) (fm_lt (by omega))
theorem nm_mono {a b : Int} (h : a ≤ b) : nm a ≤ nm b := by
  by_cases e : nm a = 0
  · omega
  · have l := nm_le a
    have h1 := (nm_iff (d := a) (j := nm a - 1) (by omega)).1 (by omega)
    have h2 := (nm_iff (d := b) (j := nm a - 1) (by omega)).2 (by omega)
    omega
theorem nm_civil {A : Int} {k0 m0 : Nat} {d0 : Int} (h : IsCivil A k0 m0 d0) : nm A = 12 * k0 + m0 ∧ 1 ≤ m0 ∧ m0 ≤ 12 ∧ k0 < 200 := by
  obtain ⟨h1, h2, h3, h4, h5, h6⟩ := civil_fm h
  refine ⟨?_, h3, h4, by omega⟩
  have := nm_of (d := A) (M := 12 * k0 + m0 - 1) h2 (by omega) (by rw [show 12 * k0 + m0 - 1 + 1 = 12 * k0 + m0 from by omega]; exact h6)
  omega
/-- Is the month that comes next behind a day? -/
theorem nm_next {d : Int} {M : Nat} (hM : M ≤ 2400) (hd : d ≤ 73048) : fm (M : Int) ≤ d ↔ M < nm d := by
  by_cases e : M < 2400
  · exact (nm_iff e).symm
  · have : M = 2400 := by omega
    subst this
    have h4 : fm ((2400 : Nat) : Int) = 73049 := fm_end
    have := nm_le d
    constructor
    · intro _; omega
    · intro _; omega

/-- What is had when a month begins. -/
def one (r c : Int) (M : Nat) (h : Int) : Int := (if M % 12 = 0 then min h c else h) + r
/-- .. when k months begin, one behind the other. -/
def pas (r c : Int) : Nat → Nat → Int → Int
  | _, 0, h => h
  | M, k + 1, h => pas r c (M + 1) k (one r c M h)
theorem one_mono (r c : Int) (M : Nat) {a b : Int} (h : a ≤ b) : one r c M a ≤ one r c M b := by
  unfold one
  split <;> omega
theorem pas_mono (r c : Int) : ∀ (k M : Nat) {a b : Int}, a ≤ b → pas r c M k a ≤ pas r c M k b
  | 0, _, _, _, h => h
  | k + 1, M, _, _, h => pas_mono r c k (M + 1) (one_mono r c M h)
theorem pas_add (r c : Int) : ∀ (a b M : Nat) (h : Int), pas r c M (a + b) h = pas r c (M + a) b (pas r c M a h)
  | 0, b, M, h => by rw [Nat.zero_add]; rfl
  | a + 1, b, M, h => by
    rw [show a + 1 + b = (a + b) + 1 from by omega, pas, pas, pas_add r c a b (M + 1), show M + 1 + a = M + (a + 1) from by omega]
theorem pas_snoc (r c : Int) (k M : Nat) (h : Int) : pas r c M (k + 1) h = one r c (M + k) (pas r c M k h) := by rw [pas_add]; rfl
theorem one_nn {r c : Int} (hr : 0 ≤ r) (hc : 0 ≤ c) (M : Nat) {h : Int} (hh : 0 ≤ h) : 0 ≤ one r c M h := by
  unfold one
  split <;> omega
theorem pas_nn {r c : Int} (hr : 0 ≤ r) (hc : 0 ≤ c) : ∀ (k M : Nat) {h : Int}, 0 ≤ h → 0 ≤ pas r c M k h
  | 0, _, _, hh => hh
  | k + 1, M, _, hh => pas_nn hr hc k (M + 1) (one_nn hr hc M hh)
/-- What stands when a day is reached: how many months have begun, and what is had. -/
def rch (r c : Int) (d : Int) (s : Nat × Int) : Nat × Int := (max s.1 (nm d), pas r c s.1 (nm d - s.1) s.2)
/-- A use: its day, and how much. -/
structure Us where
  day : Int
  days : Int
def unth (l : List Us) (j : Nat) : Us := l.getD j ⟨0, 0⟩
def uss (r c : Int) (s : Nat × Int) (u : Us) : Nat × Int := ((rch r c u.day s).1, (rch r c u.day s).2 - u.days)
/-- What stands behind uses. -/
def stN (h r c : Int) (l : List Us) : Nat × Int := l.foldl (uss r c) (nm h, 0)
theorem stN_snoc (h r c : Int) (l : List Us) (u : Us) : stN h r c (l ++ [u]) = uss r c (stN h r c l) u := by unfold stN; rw [List.foldl_append]; rfl
theorem utake_snoc {l : List Us} {k : Nat} (h : k < l.length) : l.take (k + 1) = l.take k ++ [unth l k] := by
  rw [List.take_add_one]
  simp [unth, List.getD_eq_getElem?_getD, h]
theorem stN_step {h r c : Int} {l : List Us} {k : Nat} (hk : k < l.length) : stN h r c (l.take (k + 1)) = uss r c (stN h r c (l.take k)) (unth l k) := by rw [utake_snoc hk, stN_snoc]
def lvB (h r c : Int) : Bool := dayB h && decide (0 ≤ r) && decide (r ≤ 1000) && decide (0 ≤ c) && decide (c ≤ 100000)
def dofB (h d : Int) : Bool := dayB d && decide (h ≤ d)
def usedB (n : Int) : Bool := decide (1 ≤ n) && decide (n ≤ 100000)
def useB (h : Int) (u : Us) : Bool := dofB h u.day && usedB u.days
theorem lvB_iff {h r c : Int} : lvB h r c = true ↔ 0 ≤ h ∧ h ≤ 73048 ∧ 0 ≤ r ∧ r ≤ 1000 ∧ 0 ≤ c ∧ c ≤ 100000 := by
  unfold lvB dayB
  simp only [Bool.and_eq_true, decide_eq_true_eq]
  omega
theorem dofB_iff {h d : Int} : dofB h d = true ↔ 0 ≤ d ∧ d ≤ 73048 ∧ h ≤ d := by
  unfold dofB dayB
  simp only [Bool.and_eq_true, decide_eq_true_eq]
  omega
theorem usedB_iff {n : Int} : usedB n = true ↔ 1 ≤ n ∧ n ≤ 100000 := by
  unfold usedB
  simp only [Bool.and_eq_true, decide_eq_true_eq]
theorem useB_iff {h : Int} {u : Us} : useB h u = true ↔ 0 ≤ u.day ∧ u.day ≤ 73048 ∧ h ≤ u.day ∧ 1 ≤ u.days ∧ u.days ≤ 100000 := by
  unfold useB
  rw [Bool.and_eq_true, dofB_iff, usedB_iff]
  omega
/-- Leave that is right. -/
structure LvOk (h r c : Int) (l : List Us) : Prop where
  lv : lvB h r c = true
  len : l.length ≤ 100
  use : ∀ j, j < l.length → useB h (unth l j) = true
  up : ∀ j, j + 1 < l.length → (unth l j).day ≤ (unth l (j + 1)).day
  nn : ∀ j, j ≤ l.length → 0 ≤ (stN h r c (l.take j)).2
theorem LvOk.mono {h r c : Int} {l : List Us} (k : LvOk h r c l) {i j : Nat} (hij : i ≤ j) (hj : j < l.length) : (unth l i).day ≤ (unth l j).day := by
  induction j with
  | zero => have : i = 0 := by omega
            subst this; omega
  | succ j ih =>
    by_cases e : i = j + 1
    · subst e; omega
    · have := ih (by omega) (by omega)
      have := k.up j hj
      omega
/-- Up to where uses come up to a day. -/
structure PreOf (l : List Us) (d : Int) (p : Nat) : Prop where
  le : p ≤ l.length
  yes : ∀ j, j < p → (unth l j).day ≤ d
  no : ∀ j, p ≤ j → j < l.length → d < (unth l j).day
theorem PreOf.unique {l : List Us} {d : Int} {p q : Nat} (h : PreOf l d p) (k : PreOf l d q) : p = q := by
  by_cases a : p < q
  · have := k.yes p a
    have := h.no p (Nat.le_refl _) (Nat.lt_of_lt_of_le a k.le)
    omega
  · by_cases b : q < p
    · have := h.yes q b
      have := k.no q (Nat.le_refl _) (Nat.lt_of_lt_of_le b h.le)
      omega
    · omega
theorem PreOf.exists {l : List Us} (d : Int) (hup : ∀ i j, i ≤ j → j < l.length → (unth l i).day ≤ (unth l j).day) : ∃ p, PreOf l d p := by
  have aux : ∀ n, n ≤ l.length → ∃ p, p ≤ n ∧ (∀ j, j < p → (unth l j).day ≤ d) ∧ ∀ j, p ≤ j → j < n → d < (unth l j).day := by
    intro n
    induction n with
    | zero => intro _; exact ⟨0, Nat.le_refl _, fun j h => by omega, fun j _ h => by omega⟩
    | succ n ih =>
      intro hn
      obtain ⟨p, h1, h2, h3⟩ := ih (by omega)
      by_cases e : (unth l n).day ≤ d
      · exact ⟨n + 1, Nat.le_refl _, fun j hj => Int.le_trans (hup j n (by omega) (by omega)) e, fun j a b => by omega⟩
      · refine ⟨p, by omega, h2, fun j a b => ?_⟩
        by_cases e' : j = n
        · subst e'; omega
        · exact h3 j a (by omega)
  obtain ⟨p, h1, h2, h3⟩ := aux l.length (Nat.le_refl _)
  exact ⟨p, h1, h2, h3⟩
theorem rch_1 {r c d : Int} {s : Nat × Int} (h : s.1 ≤ nm d) : (rch r c d s).1 = nm d := by unfold rch; exact Nat.max_eq_right h
theorem rch_nn {r c d : Int} {s : Nat × Int} (hr : 0 ≤ r) (hc : 0 ≤ c) (h : 0 ≤ s.2) : 0 ≤ (rch r c d s).2 := pas_nn hr hc _ _ h
/-- How many months have begun behind uses: no more than at a day that none passes. -/
theorem stN_1 {h r c d : Int} {l : List Us} (hh : h ≤ d) : ∀ k, k ≤ l.length → (∀ j, j < k → (unth l j).day ≤ d) → (stN h r c (l.take k)).1 ≤ nm d
  | 0, _, _ => by simpa [stN] using nm_mono hh
  | k + 1, hk, hj => by
    rw [stN_step hk]
    have ih := stN_1 (c := c) (r := r) hh k (by omega) (fun j q => hj j (by omega))
    have := nm_mono (hj k (by omega))
    show max _ _ ≤ _
    omega
/-- Who has used less stands no worse. -/
def Dom (r c : Int) (s' s : Nat × Int) : Prop := s'.1 ≤ s.1 ∧ s.2 ≤ pas r c s'.1 (s.1 - s'.1) s'.2
theorem Dom.refl (r c : Int) (s : Nat × Int) : Dom r c s s := ⟨Nat.le_refl _, by rw [Nat.sub_self]; exact Int.le_refl _⟩
theorem Dom.used {r c : Int} {s : Nat × Int} {u : Us} (h : 0 ≤ u.days) : Dom r c s (uss r c s u) := by
  refine ⟨Nat.le_max_left _ _, ?_⟩
  show pas r c s.1 (nm u.day - s.1) s.2 - u.days ≤ pas r c s.1 (max s.1 (nm u.day) - s.1) s.2
  rw [show max s.1 (nm u.day) - s.1 = nm u.day - s.1 from by omega]
  omega
theorem Dom.reach {r c d : Int} {s' s : Nat × Int} (h : Dom r c s' s) (hd : s.1 ≤ nm d) : (rch r c d s).2 ≤ (rch r c d s').2 := by
  obtain ⟨h1, h2⟩ := h
  show pas r c s.1 (nm d - s.1) s.2 ≤ pas r c s'.1 (nm d - s'.1) s'.2
  rw [show nm d - s'.1 = (s.1 - s'.1) + (nm d - s.1) from by omega, pas_add, show s'.1 + (s.1 - s'.1) = s.1 from by omega]
  exact pas_mono r c _ _ h2
theorem Dom.use {r c : Int} {s' s : Nat × Int} {u : Us} (h : Dom r c s' s) (hd : s.1 ≤ nm u.day) : Dom r c (uss r c s' u) (uss r c s u) := by
  have h3 := h.reach hd
  obtain ⟨h1, h2⟩ := h
  have e1 : (uss r c s' u).1 = nm u.day := rch_1 (r := r) (c := c) (by omega)
  have e2 : (uss r c s u).1 = nm u.day := rch_1 (r := r) (c := c) hd
  refine ⟨by omega, ?_⟩
  rw [e1, e2, Nat.sub_self]
  show (rch r c u.day s).2 - u.days ≤ (rch r c u.day s').2 - u.days
  omega
/-- A list without one of it. -/
def drp (l : List Us) (k : Nat) : List Us := l.take k ++ l.drop (k + 1)
theorem drp_len {l : List Us} {k : Nat} (h : k < l.length) : (drp l k).length = l.length - 1 := by
  unfold drp
  rw [List.length_append, List.length_take, List.length_drop]
  omega
theorem drp_nth {l : List Us} {k j : Nat} (h : k < l.length) : unth (drp l k) j = if j < k then unth l j else unth l (j + 1) := by
  unfold drp unth
  rw [List.getD_eq_getElem?_getD, List.getD_eq_getElem?_getD, List.getD_eq_getElem?_getD]
  by_cases e : j < k
  · rw [if_pos e, List.getElem?_append_left (by rw [List.length_take]; omega), List.getElem?_take, if_pos e]
  · rw [if_neg e, List.getElem?_append_right (by rw [List.length_take]; omega), List.getElem?_drop, List.length_take, show k + 1 + (j - min k l.length) = j + 1 from by omega]
theorem drp_take_lo {l : List Us} {k j : Nat} (h : k < l.length) (hj : j ≤ k) : (drp l k).take j = l.take j := by
  unfold drp
  rw [List.take_append_of_le_length (by rw [List.length_take]; omega), List.take_take, Nat.min_eq_left hj]
theorem drp_dom {h r c : Int} {l : List Us} (ok : LvOk h r c l) {k : Nat} (hk : k < l.length) : ∀ i, k + 1 + i ≤ l.length → Dom r c (stN h r c ((drp l k).take (k + i))) (stN h r c (l.take (k + 1 + i)))
  | 0, _ => by
    rw [Nat.add_zero, Nat.add_zero, drp_take_lo hk (Nat.le_refl _), stN_step hk]
    exact Dom.used (by have := useB_iff.1 (ok.use k hk); omega)
  | i + 1, hi => by
    have ih := drp_dom ok hk i (by omega)
    rw [show k + (i + 1) = (k + i) + 1 from by omega, show k + 1 + (i + 1) = (k + 1 + i) + 1 from by omega, stN_step (by rw [drp_len hk]; omega), stN_step (by omega), drp_nth hk, if_neg (by omega), show k + i + 1 = k + 1 + i from by omega]
    refine ih.use (stN_1 ?_ _ (by omega) fun j hj => ok.mono (by omega) (by omega))
    have := useB_iff.1 (ok.use (k + 1 + i) (by omega))
    omega
/-- Without one of its uses leave is right as well. -/
theorem drp_ok {h r c : Int} {l : List Us} (ok : LvOk h r c l) {k : Nat} (hk : k < l.length) : LvOk h r c (drp l k) := by
  have hl := drp_len hk
  refine ⟨ok.lv, by have := ok.len; omega, fun j hj => ?_, fun j hj => ?_, fun j hj => ?_⟩
  · rw [drp_nth hk]
    split
    · exact ok.use j (by omega)
    · exact ok.use (j + 1) (by omega)
  · rw [drp_nth hk, drp_nth hk]
    split <;> split <;> first | exact ok.mono (by omega) (by omega) | omega
  · by_cases e : j ≤ k
    · rw [drp_take_lo hk e]
      exact ok.nn j (by omega)
    · obtain ⟨i, rfl⟩ : ∃ i, j = k + (i + 1) := ⟨j - k - 1, by omega⟩
      have h1 := drp_dom ok hk i (by omega)
      have hn := ok.nn (k + 1 + (i + 1)) (by omega)
      rw [show k + 1 + (i + 1) = (k + 1 + i) + 1 from by omega, stN_step (by omega)] at hn
      rw [show k + (i + 1) = (k + i) + 1 from by omega, stN_step (by rw [hl]; omega), drp_nth hk, if_neg (by omega), show k + i + 1 = k + 1 + i from by omega]
      have hd : (stN h r c (l.take (k + 1 + i))).1 ≤ nm (unth l (k + 1 + i)).day := by
        refine stN_1 ?_ _ (by omega) fun j hj => ok.mono (by omega) (by omega)
        have := useB_iff.1 (ok.use (k + 1 + i) (by omega))
        omega
      have h3 := h1.reach hd
      show 0 ≤ (rch r c (unth l (k + 1 + i)).day (stN h r c ((drp l k).take (k + i)))).2 - (unth l (k + 1 + i)).days
      have hn' : 0 ≤ (rch r c (unth l (k + 1 + i)).day (stN h r c (l.take (k + 1 + i)))).2 - (unth l (k + 1 + i)).days := hn
      omega
/-- What is had at a day. -/
def hadD (h r c : Int) (l : List Us) (d : Int) (p : Nat) : Int := (rch r c d (stN h r c (l.take p))).2
theorem hadD_nn {h r c : Int} {l : List Us} (ok : LvOk h r c l) {d : Int} {p : Nat} (hp : p ≤ l.length) : 0 ≤ hadD h r c l d p := by
  have hl := lvB_iff.1 ok.lv
  exact rch_nn (by omega) (by omega) (ok.nn p hp)
theorem hadD_less {h r c : Int} {l : List Us} (ok : LvOk h r c l) {d : Int} (hd : h ≤ d) {p p' k : Nat} (hk : k < l.length) (hp : PreOf l d p) (hp' : PreOf (drp l k) d p') : hadD h r c l d p ≤ hadD h r c (drp l k) d p' := by
  by_cases e : p ≤ k
  · have : p' = p := by
      refine hp'.unique ⟨by rw [drp_len hk]; have := hp.le; omega, fun j hj => ?_, fun j hj hj2 => ?_⟩
      · rw [drp_nth hk, if_pos (by omega)]
        exact hp.yes j hj
      · rw [drp_len hk] at hj2
        rw [drp_nth hk]
        split
        · exact hp.no j hj (by omega)
        · exact hp.no (j + 1) (by omega) (by omega)
    subst this
    unfold hadD
    rw [drp_take_lo hk e]
    exact Int.le_refl _
  · obtain ⟨i, rfl⟩ : ∃ i, p = k + 1 + i := ⟨p - k - 1, by omega⟩
    have hle := hp.le
    have : p' = k + i := by
      refine hp'.unique ⟨by rw [drp_len hk]; omega, fun j hj => ?_, fun j hj hj2 => ?_⟩
      · rw [drp_nth hk]
        split
        · exact hp.yes j (by omega)
        · exact hp.yes (j + 1) (by omega)
      · rw [drp_len hk] at hj2
        rw [drp_nth hk, if_neg (by omega)]
        exact hp.no (j + 1) (by omega) (by omega)
    subst this
    exact (drp_dom ok hk i hle).reach (stN_1 hd _ hle hp.yes)
/-- Behind the first day of a year no more than Carry and Rate is had. -/
def Jan (h r c : Int) (s : Nat × Int) : Prop := ∀ m, s.1 = m + 1 → m % 12 = 0 → nm h ≤ m → s.2 ≤ c + r
theorem Jan.step {h r c : Int} {M : Nat} {a : Int} (_ : Jan h r c (M, a)) : Jan h r c (M + 1, one r c M a) := by
  intro m hm h0 _
  have : m = M := by simpa using hm.symm
  subst this
  show one r c m a ≤ c + r
  unfold one
  rw [if_pos h0]
  omega
theorem Jan.pass {h r c : Int} : ∀ (k M : Nat) (a : Int), Jan h r c (M, a) → Jan h r c (M + k, pas r c M k a)
  | 0, _, _, q => q
  | k + 1, M, a, q => by
    have := Jan.pass k (M + 1) _ (q.step)
    rw [show M + (k + 1) = M + 1 + k from by omega]
    exact this
theorem Jan.reach {h r c d : Int} {s : Nat × Int} (q : Jan h r c s) : Jan h r c (rch r c d s) := by
  have := Jan.pass (nm d - s.1) s.1 s.2 q
  unfold rch
  rw [show max s.1 (nm d) = s.1 + (nm d - s.1) from by omega]
  exact this
theorem Jan.use {h r c : Int} {s : Nat × Int} {u : Us} (q : Jan h r c s) (hu : 0 ≤ u.days) : Jan h r c (uss r c s u) := by
  intro m hm h0 h1
  have := q.reach (d := u.day) m hm h0 h1
  show (rch r c u.day s).2 - u.days ≤ c + r
  omega
theorem Jan.st {h r c : Int} {l : List Us} (ok : LvOk h r c l) : ∀ k, k ≤ l.length → Jan h r c (stN h r c (l.take k))
  | 0, _ => by
    intro m hm _ h1
    have : nm h = m + 1 := by simpa [stN] using hm
    omega
  | k + 1, hk => by
    rw [stN_step hk]
    exact (Jan.st ok k (by omega)).use (by have := useB_iff.1 (ok.use k hk); omega)
theorem hadD_jan {h r c : Int} {l : List Us} (ok : LvOk h r c l) {d : Int} {p k : Nat} (hp : PreOf l d p) (hc : IsCivil d k 1 1) (hd : h < d) : hadD h r c l d p ≤ c + r := by
  obtain ⟨e1, e2, _⟩ := civil_fm hc
  obtain ⟨e3, _⟩ := nm_civil hc
  refine (Jan.st ok p hp.le).reach (d := d) (12 * k) ?_ (by omega) ?_
  · rw [rch_1 (stN_1 (by omega) _ hp.le hp.yes), e3]
  · have hlt : ¬ 12 * k < nm h := fun q => by
      have := (nm_iff (d := h) (j := 12 * k) (by omega)).1 q
      rw [show 12 * k + 1 - 1 = 12 * k from by omega] at e1
      omega
    omega
/-- With one more use at a day that none passes. -/
theorem more_ok {h r c : Int} {l : List Us} (ok : LvOk h r c l) {u : Us} (hu : useB h u = true) (hl : l.length < 100) (hd : ∀ j, j < l.length → (unth l j).day ≤ u.day) (hh : u.days ≤ (rch r c u.day (stN h r c l)).2) : LvOk h r c (l ++ [u]) := by
  have nlo : ∀ j, j < l.length → unth (l ++ [u]) j = unth l j := fun j hj => by
    unfold unth
    rw [List.getD_eq_getElem?_getD, List.getD_eq_getElem?_getD, List.getElem?_append_left hj]
  have nhi : unth (l ++ [u]) l.length = u := by
    unfold unth
    rw [List.getD_eq_getElem?_getD, List.getElem?_append_right (Nat.le_refl _)]
    simp
  have hlen : (l ++ [u]).length = l.length + 1 := by simp
  refine ⟨ok.lv, by omega, fun j hj => ?_, fun j hj => ?_, fun j hj => ?_⟩
  · by_cases e : j < l.length
    · rw [nlo j e]; exact ok.use j e
    · have : j = l.length := by omega
      subst this
      rw [nhi]; exact hu
  · rw [nlo j (by omega)]
    by_cases e : j + 1 < l.length
    · rw [nlo (j + 1) e]; exact ok.up j e
    · have : j + 1 = l.length := by omega
      rw [this, nhi]
      exact hd j (by omega)
  · by_cases e : j ≤ l.length
    · rw [List.take_append_of_le_length e]; exact ok.nn j e
    · have : j = l.length + 1 := by omega
      rw [List.take_of_length_le (by omega), stN_snoc]
      show 0 ≤ (rch r c u.day (stN h r c l)).2 - u.days
      omega
/-- A day that was reached is reached. -/
theorem rch_again {r c d : Int} {s : Nat × Int} : rch r c d (rch r c d s) = rch r c d s := by
  unfold rch
  dsimp only
  rw [show nm d - max s.1 (nm d) = 0 from by omega, show max (max s.1 (nm d)) (nm d) = max s.1 (nm d) from by omega]
  rfl
end Go.Proofs.Ytlaamfagjpdhgaa
