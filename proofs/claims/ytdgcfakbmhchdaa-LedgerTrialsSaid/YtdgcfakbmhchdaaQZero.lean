/-
  Promise Q4: the balances of all accounts come to 0.
-/
import Derived.Test.YtdgcfakbmhchdaaQTrial
import Derived.Test.YtdgcfakbmhchdaaQMovR
namespace Go.Proofs.Ytdgcfakbmhchdaa
open Go.RowKit

/-- Those with another name. -/
def oth (s : ByteArray) (l : List Am) : List Am := l.filter fun a => !decide (a.name.data = s.data)
theorem sumA_oth (s : ByteArray) : ∀ l : List Am, sumA l = sumN s l + sumA (oth s l)
  | [] => rfl
  | a :: r => by
    have ih := sumA_oth s r
    unfold oth at *
    rw [List.filter_cons, sumA, sumN]
    by_cases e : a.name.data = s.data
    · rw [if_pos e, decide_eq_true e]
      simp only [Bool.not_true, Bool.false_eq_true, if_false]
      omega
    · rw [if_neg e, decide_eq_false e]
      simp only [Bool.not_false, if_true]
      rw [sumA]
      omega
theorem sumN_oth {s u : ByteArray} (h : u.data ≠ s.data) : ∀ l : List Am, sumN u (oth s l) = sumN u l ∧ hasN u (oth s l) = hasN u l
  | [] => ⟨rfl, rfl⟩
  | a :: r => by
    obtain ⟨i1, i2⟩ := sumN_oth h r
    unfold oth hasN at *
    rw [List.filter_cons]
    by_cases e : a.name.data = s.data
    · have e' : ¬ a.name.data = u.data := fun q => h (q.symm.trans e)
      rw [decide_eq_true e]
      simp only [Bool.not_true, Bool.false_eq_true, if_false, List.any_cons, decide_eq_false e', Bool.false_or]
      rw [sumN, if_neg e']
      exact ⟨by omega, i2⟩
    · rw [decide_eq_false e]
      simp only [Bool.not_false, if_true, List.any_cons]
      rw [sumN, sumN]
      exact ⟨by omega, by rw [i2]⟩
theorem hasN_own (s : ByteArray) : ∀ l : List Am, hasN s (oth s l) = false
  | [] => rfl
  | a :: r => by
    have ih := hasN_own s r
    unfold oth hasN at *
    rw [List.filter_cons]
    by_cases e : a.name.data = s.data
    · rw [decide_eq_true e]
      simp only [Bool.not_true, Bool.false_eq_true, if_false]
      exact ih
    · rw [decide_eq_false e]
      simp only [Bool.not_false, if_true, List.any_cons, decide_eq_false e, Bool.false_or]
      exact ih
theorem hasN_mem {s : ByteArray} {l : List Am} (h : hasN s l = true) : ∃ a ∈ l, a.name = s := by
  unfold hasN at h
  obtain ⟨a, ha, e⟩ := List.any_eq_true.1 h
  exact ⟨a, ha, ba_eq (of_decide_eq_true e)⟩
/-- One name's part of a list in which names are once. -/
theorem sumN_out {s : ByteArray} : ∀ {L : List Am}, (∀ t ∈ L, t.name.data ≠ s.data) → sumN s L = 0
  | [], _ => rfl
  | t :: L, h => by rw [sumN, if_neg (h t (by simp)), sumN_out (fun x hx => h x (by simp [hx]))]; rfl
theorem sumN_in {s : ByteArray} {v : Int} : ∀ {L : List Am}, L.Nodup → (∀ t ∈ L, t.name.data = s.data → t = ⟨s, v⟩) → (⟨s, v⟩ : Am) ∈ L → sumN s L = v
  | [], _, _, h => by simp at h
  | t :: L, hn, hu, hm => by
    obtain ⟨h1, h2⟩ := List.nodup_cons.1 hn
    rw [sumN]
    by_cases e : t.name.data = s.data
    · have et := hu t (by simp) e
      subst et
      rw [if_pos e, sumN_out (fun x hx q => h1 (by have := hu x (by simp [hx]) q; rw [← this]; exact hx))]
      show v + 0 = v
      omega
    · have hne : (⟨s, v⟩ : Am) ≠ t := fun q => e (by rw [← q])
      rw [if_neg e, sumN_in h2 (fun x hx => hu x (by simp [hx])) (by simpa [hne] using hm)]
      omega
theorem made_eq {P : List Am} {t : Am} (h : MadeS (sumsS P) t) : hasN t.name P = true ∧ t.mon = sumN t.name P ∧ t.mon ≠ 0 ∧ t.name.size ≤ maxLen := by
  obtain ⟨h1, h2, h3⟩ := h
  rw [sumsS_eq] at h2
  cases hh : hasN t.name P
  · rw [hh] at h2; simp at h2
  · rw [hh, if_pos rfl] at h2
    exact ⟨rfl, (Option.some.inj h2).symm, h3, h1⟩
theorem made_of {P : List Am} {t : Am} (h1 : hasN t.name P = true) (h2 : t.mon = sumN t.name P) (h3 : t.mon ≠ 0) (h4 : t.name.size ≤ maxLen) : MadeS (sumsS P) t := by
  refine ⟨h4, ?_, h3⟩
  rw [sumsS_eq, h1, if_pos rfl, h2]
theorem sum_lists : ∀ (n : Nat) (P L : List Am), P.length ≤ n → (∀ a ∈ P, a.name.size ≤ maxLen) → ListS (sumsS P) L → sumA L = sumA P := by
  intro n
  induction n with
  | zero =>
    intro P L hP _ hL
    obtain rfl : P = [] := List.eq_nil_of_length_eq_zero (by omega)
    have : L = [] := by
      cases L with
      | nil => rfl
      | cons t r =>
        have := (made_eq ((hL.2 t).1 (by simp))).1
        simp [hasN] at this
    rw [this]
  | succ n ih =>
    intro P L hP hf hL
    cases P with
    | nil =>
      have : L = [] := by
        cases L with
        | nil => rfl
        | cons t r =>
          have := (made_eq ((hL.2 t).1 (by simp))).1
          simp [hasN] at this
      rw [this]
    | cons a r =>
      obtain ⟨s, hs⟩ : ∃ s, a.name = s := ⟨_, rfl⟩
      obtain ⟨P, hPP⟩ : ∃ P, a :: r = P := ⟨_, rfl⟩
      rw [hPP] at hP hf hL ⊢
      have hlt : (oth s P).length ≤ n := by
        rw [← hPP] at hP ⊢
        unfold oth
        rw [List.filter_cons, hs, decide_eq_true rfl]
        simp only [Bool.not_true, Bool.false_eq_true, if_false]
        have := List.length_filter_le (fun a : Am => !decide (a.name.data = s.data)) r
        rw [List.length_cons] at hP
        omega
      have hss : s.size ≤ maxLen := by rw [← hs]; exact hf a (by rw [← hPP]; simp)
      have hhs : hasN s P = true := by rw [← hPP]; simp [hasN, hs]
      have hL' : ListS (sumsS (oth s P)) (oth s L) := by
        refine ⟨hL.1.filter _, fun t => ?_⟩
        unfold oth
        rw [List.mem_filter, hL.2]
        constructor
        · rintro ⟨hm, hne⟩
          have hne' : t.name.data ≠ s.data := by simpa using hne
          obtain ⟨q1, q2, q3, q4⟩ := made_eq hm
          obtain ⟨o1, o2⟩ := sumN_oth hne' P
          exact made_of (by unfold oth at o2; rw [o2]; exact q1) (by unfold oth at o1; rw [o1]; exact q2) q3 q4
        · intro hm
          obtain ⟨q1, q2, q3, q4⟩ := made_eq hm
          have hne' : t.name.data ≠ s.data := fun e => by
            have := hasN_own s P
            rw [show t.name = s from ba_eq e] at q1
            unfold oth at this
            rw [this] at q1
            cases q1
          obtain ⟨o1, o2⟩ := sumN_oth hne' P
          unfold oth at o1 o2
          rw [o2] at q1
          rw [o1] at q2
          exact ⟨made_of q1 q2 q3 q4, by simpa using hne'⟩
      have h1 := ih (oth s P) (oth s L) hlt (fun x hx => hf x (List.mem_filter.1 hx).1) hL'
      rw [sumA_oth s L, sumA_oth s P, h1]
      have h2 : sumN s L = sumN s P := by
        by_cases hz : sumN s P = 0
        · rw [hz]
          refine sumN_out fun t ht e => ?_
          obtain ⟨_, q2, q3, _⟩ := made_eq ((hL.2 t).1 ht)
          rw [show t.name = s from ba_eq e, hz] at q2
          exact q3 q2
        · refine sumN_in hL.1 (fun t ht e => ?_) ?_
          · obtain ⟨_, q2, _, _⟩ := made_eq ((hL.2 t).1 ht)
            have e' : t.name = s := ba_eq e
            obtain ⟨tn, tm⟩ := t
            simp only at q2 e'
            subst e'
            rw [q2]
          · rw [hL.2]
            exact made_of hhs rfl hz hss
      rw [h2]
theorem oth_all {s : ByteArray} : ∀ {L : List Am}, (∀ t ∈ L, t.name.data ≠ s.data) → oth s L = L
  | [], _ => rfl
  | t :: L, h => by
    have ih := oth_all (s := s) (L := L) fun x hx => h x (by simp [hx])
    unfold oth at *
    rw [List.filter_cons, decide_eq_false (h t (by simp))]
    simp only [Bool.not_false, if_true]
    rw [ih]
theorem cnt_one {s : ByteArray} {u : Am} : ∀ {L : List Am}, L.Nodup → (∀ t ∈ L, t.name.data = s.data → t = u) → L.length ≤ (oth s L).length + 1
  | [], _, _ => by simp
  | t :: L, hn, hu => by
    obtain ⟨h1, h2⟩ := List.nodup_cons.1 hn
    by_cases e : t.name.data = s.data
    · have et := hu t (by simp) e
      have hall : ∀ x ∈ L, x.name.data ≠ s.data := fun x hx q => h1 (by rw [et, ← hu x (by simp [hx]) q]; exact hx)
      have he := oth_all hall
      unfold oth at *
      rw [List.filter_cons, decide_eq_true e]
      simp only [Bool.not_true, Bool.false_eq_true, if_false]
      rw [he, List.length_cons]
      omega
    · have ih := cnt_one (s := s) (u := u) h2 (fun x hx => hu x (by simp [hx]))
      unfold oth at *
      rw [List.filter_cons, decide_eq_false e]
      simp only [Bool.not_false, if_true]
      rw [List.length_cons, List.length_cons]
      omega
theorem oth_made {s : ByteArray} {P L : List Am} (hL : ListS (sumsS P) L) : ListS (sumsS (oth s P)) (oth s L) := by
  refine ⟨hL.1.filter _, fun t => ?_⟩
  unfold oth
  rw [List.mem_filter, hL.2]
  constructor
  · rintro ⟨hm, hne⟩
    have hne' : t.name.data ≠ s.data := by simpa using hne
    obtain ⟨q1, q2, q3, q4⟩ := made_eq hm
    obtain ⟨o1, o2⟩ := sumN_oth hne' P
    exact made_of (by unfold oth at o2; rw [o2]; exact q1) (by unfold oth at o1; rw [o1]; exact q2) q3 q4
  · intro hm
    obtain ⟨q1, q2, q3, q4⟩ := made_eq hm
    have hne' : t.name.data ≠ s.data := fun e => by
      have := hasN_own s P
      rw [show t.name = s from ba_eq e] at q1
      unfold oth at this
      rw [this] at q1
      cases q1
    obtain ⟨o1, o2⟩ := sumN_oth hne' P
    unfold oth at o1 o2
    rw [o2] at q1
    rw [o1] at q2
    exact ⟨made_of q1 q2 q3 q4, by simpa using hne'⟩
/-- Sums are of no more names than there are amounts. -/
theorem len_lists : ∀ (n : Nat) (P L : List Am), P.length ≤ n → ListS (sumsS P) L → L.length ≤ P.length := by
  intro n
  induction n with
  | zero =>
    intro P L hP hL
    obtain rfl : P = [] := List.eq_nil_of_length_eq_zero (by omega)
    cases L with
    | nil => simp
    | cons t r =>
      have := (made_eq ((hL.2 t).1 (by simp))).1
      simp [hasN] at this
  | succ n ih =>
    intro P L hP hL
    cases P with
    | nil =>
      cases L with
      | nil => simp
      | cons t r =>
        have := (made_eq ((hL.2 t).1 (by simp))).1
        simp [hasN] at this
    | cons a r =>
      obtain ⟨s, hs⟩ : ∃ s, a.name = s := ⟨_, rfl⟩
      have hlt : (oth s (a :: r)).length ≤ r.length := by
        unfold oth
        rw [List.filter_cons, hs, decide_eq_true rfl]
        simp only [Bool.not_true, Bool.false_eq_true, if_false]
        exact List.length_filter_le _ _
      rw [List.length_cons] at hP ⊢
      have h1 := ih (oth s (a :: r)) (oth s L) (by omega) (oth_made hL)
      have h2 := cnt_one (s := s) (u := ⟨s, sumN s (a :: r)⟩) hL.1 (fun t ht e => by
        obtain ⟨_, q2, _, _⟩ := made_eq ((hL.2 t).1 ht)
        have e' : t.name = s := ba_eq e
        obtain ⟨tn, tm⟩ := t
        simp only at q2 e'
        subst e'
        rw [q2])
      omega
/-- All postings of journals that are right come to 0. -/
theorem sumA_pst {l : List En} (h : jrE l = 0) (f t : Int) : sumA (pst l f t) = 0 := by
  have key : ∀ m : List En, (∀ e ∈ m, sumA e.ps = 0) → sumA (m.flatMap En.ps) = 0 := by
    intro m
    induction m with
    | nil => intro _; rfl
    | cons e m ih =>
      intro hm
      rw [List.flatMap_cons, sumA_append, hm e (by simp), ih fun x hx => hm x (by simp [hx])]
      rfl
  unfold pst
  exact key _ fun e he => (enE_ok ((jrE_ok h).2.1 e (List.mem_filter.1 he).1)).2.2.2.2.2
theorem trial_zero {l : List En} (h : jrE l = 0) {day : Int} {L : List Am} (hL : AmsOf (sumsS (pst l 0 day)) L) : sumA L = 0 := by
  rw [sum_lists _ (pst l 0 day) L (Nat.le_refl _) (fun a ha => by
    obtain ⟨e, he, hx⟩ := pst_mem ha
    have := (of_decide_eq_true (List.all_eq_true.1 (enE_ok ((jrE_ok h).2.1 e he)).2.2.2.1 _ hx) : NameP _).2.1
    unfold maxLen
    omega) hL.1]
  exact sumA_pst h 0 day
/-- Of an account of a trial one may ask. -/
theorem trial_ask {l : List En} (h : jrE l = 0) {day : Int} (hd : dayB day = true) {L : List Am} (hL : AmsOf (sumsS (pst l 0 day)) L) {t : Am} (ht : t ∈ L) : askE l t.name 0 day = 0 ∧ sumN t.name (pst l 0 day) = t.mon ∧ t.mon ≠ 0 := by
  obtain ⟨q1, q2, q3, q4⟩ := made_eq ((hL.1.2 t).1 ht)
  refine ⟨?_, q2.symm, q3⟩
  obtain ⟨a, ha, e⟩ := hasN_mem q1
  obtain ⟨en, he, hx⟩ := pst_mem ha
  have hn : namB t.name = true := by
    rw [← e]
    exact List.all_eq_true.1 (enE_ok ((jrE_ok h).2.1 en he)).2.2.2.1 _ hx
  unfold askE
  rw [if_pos h, if_pos hn, if_pos ⟨by decide, hd, (of_decide_eq_true hd).1⟩]
theorem sumA_snoc (l : List Am) (a : Am) : sumA (l ++ [a]) = sumA l + a.mon := by rw [sumA_append]; simp [sumA]
end Go.Proofs.Ytdgcfakbmhchdaa
