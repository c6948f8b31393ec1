/-
  Promises M2, M4: totals put in one by one, each at its place: plain mathematics.
-/
import Derived.Test.YtfamnlaignjhkaaOGath
namespace Go.Proofs.Ytfamnlaignjhkaa
open Go.RowKit Go.Sort

/-- A list that rises holds, for each key of L, what it comes to. -/
def InvT (F L : List Tt) : Prop := F.Pairwise (fun a b => aheadT a b = true) ∧ ∀ x, x ∈ F ↔ (∃ t ∈ L, keyT t = keyT x) ∧ x.mon = sumK (keyT x) L
def addT (o t : Tt) : Tt := ⟨o.per, o.nam, o.yr, o.mon + t.mon⟩
/-- t put in at a place j. -/
def insAt (j : Nat) (t : Tt) (F : List Tt) : List Tt := if j < F.length ∧ aheadT t (onth F j) = false then F.take j ++ (addT (onth F j) t :: F.drop (j + 1)) else F.take j ++ ([t] ++ F.drop j)
theorem key_parts {a b : Tt} : keyT a = keyT b ↔ a.per = b.per ∧ a.yr = b.yr ∧ a.nam = b.nam := by
  unfold keyT
  rw [Ky.mk.injEq]
theorem ahead_key {a b : Tt} (h : aheadT a b = true) : keyT a ≠ keyT b := fun e => by
  rw [aheadT_congr (key_parts.1 e) (show b.per = b.per ∧ b.yr = b.yr ∧ b.nam = b.nam from ⟨rfl, rfl, rfl⟩), aheadT_irrefl] at h
  cases h
theorem drop_onth {F : List Tt} {j : Nat} (hj : j < F.length) : F.drop j = onth F j :: F.drop (j + 1) := by rw [onth_get hj, List.drop_eq_getElem_cons hj]
theorem InvT.nil : InvT [] [] := ⟨List.Pairwise.nil, fun x => by simp⟩
theorem same_tt {a b : Tt} (h : keyT a = keyT b) (hm : a.mon = b.mon) : a = b := by
  obtain ⟨a1, a2, a3, a4⟩ := a
  obtain ⟨b1, b2, b3, b4⟩ := b
  obtain ⟨h1, h2, h3⟩ := key_parts.1 h
  simp only at h1 h2 h3 hm
  subst h1 h2 h3 hm
  rfl
theorem sumK_one (k : Ky) (t : Tt) : sumK k [t] = if keyT t = k then t.mon else 0 := by simp [sumK]
theorem ins_step {F L : List Tt} {t : Tt} {j : Nat} (hI : InvT F L) (hj : j ≤ F.length) (h1 : ∀ i, i < j → aheadT (onth F i) t = true) (h2 : j < F.length → aheadT (onth F j) t = false) : InvT (insAt j t F) (L ++ [t]) := by
  obtain ⟨hP, hM⟩ := hI
  have hsplit : F = F.take j ++ F.drop j := (List.take_append_drop j F).symm
  have hPre : ∀ x ∈ F.take j, aheadT x t = true := fun x hx => by
    obtain ⟨i, hi, rfl⟩ := List.mem_iff_getElem.1 hx
    rw [List.length_take] at hi
    have := h1 i (by omega)
    rw [onth_get (show i < F.length by omega)] at this
    simpa using this
  have hmem : ∀ x, x ∈ F ↔ x ∈ F.take j ∨ x ∈ F.drop j := fun x => by rw [← List.mem_append, ← hsplit]
  have hP' := hP
  rw [hsplit, List.pairwise_append] at hP'
  obtain ⟨hPa, hPb, hPc⟩ := hP'
  unfold insAt
  by_cases c : j < F.length ∧ aheadT t (onth F j) = false
  · rw [if_pos c]
    have hkey : keyT (onth F j) = keyT t := key_parts.2 (aheadT_tri (h2 c.1) c.2)
    rw [drop_onth c.1] at hPb hPc
    rw [List.pairwise_cons] at hPb
    have ho : onth F j ∈ F := onth_mem c.1
    have hkey' : keyT (addT (onth F j) t) = keyT t := hkey
    refine ⟨?_, fun x => ?_⟩
    · rw [List.pairwise_append, List.pairwise_cons]
      refine ⟨hPa, ⟨fun y hy => ?_, hPb.2⟩, fun x hx y hy => ?_⟩
      · rw [aheadT_congr (key_parts.1 (hkey'.trans hkey.symm)) (show y.per = y.per ∧ y.yr = y.yr ∧ y.nam = y.nam from ⟨rfl, rfl, rfl⟩)]
        exact hPb.1 y hy
      · rcases List.mem_cons.1 hy with rfl | hy
        · rw [aheadT_congr (show x.per = x.per ∧ x.yr = x.yr ∧ x.nam = x.nam from ⟨rfl, rfl, rfl⟩) (key_parts.1 hkey')]
          exact hPre x hx
        · exact hPc x hx y (List.mem_cons_of_mem _ hy)
    · rw [List.mem_append, List.mem_cons, sumK_append, sumK_one]
      constructor
      · rintro (hx | rfl | hx)
        · have hxF : x ∈ F := (hmem x).2 (.inl hx)
          have hne : keyT t ≠ keyT x := fun e => ahead_key (hPre x hx) e.symm
          obtain ⟨⟨t', ht', hk'⟩, hm'⟩ := (hM x).1 hxF
          exact ⟨⟨t', List.mem_append_left _ ht', hk'⟩, by rw [if_neg hne, hm']; omega⟩
        · refine ⟨⟨t, by simp, hkey'.symm⟩, ?_⟩
          rw [if_pos hkey'.symm, hkey']
          show (onth F j).mon + t.mon = _
          rw [((hM _).1 ho).2, hkey]
        · have hxF : x ∈ F := (hmem x).2 (.inr (by rw [drop_onth c.1]; exact List.mem_cons_of_mem _ hx))
          have hne : keyT t ≠ keyT x := fun e => ahead_key (hPb.1 x hx) (hkey.trans e)
          obtain ⟨⟨t', ht', hk'⟩, hm'⟩ := (hM x).1 hxF
          exact ⟨⟨t', List.mem_append_left _ ht', hk'⟩, by rw [if_neg hne, hm']; omega⟩
      · rintro ⟨⟨t', ht', hk'⟩, hm'⟩
        by_cases e : keyT t = keyT x
        · refine .inr (.inl (same_tt (hkey'.trans e).symm ?_))
          rw [hm', if_pos e, ← e]
          show _ = (onth F j).mon + t.mon
          rw [((hM _).1 ho).2, hkey]
        · rw [if_neg e, Int.add_zero] at hm'
          have hxF : x ∈ F := (hM x).2 ⟨⟨t', by
            rcases List.mem_append.1 ht' with h | h
            · exact h
            · rw [List.mem_singleton] at h
              subst h
              exact absurd hk' e, hk'⟩, hm'⟩
          rcases (hmem x).1 hxF with h | h
          · exact .inl h
          · rw [drop_onth c.1] at h
            rcases List.mem_cons.1 h with rfl | h
            · exact absurd hkey.symm e
            · exact .inr (.inr h)
  · rw [if_neg c]
    have hPost : ∀ y ∈ F.drop j, aheadT t y = true := fun y hy => by
      by_cases hjl : j < F.length
      · have ha : aheadT t (onth F j) = true := by
          cases hh : aheadT t (onth F j)
          · exact absurd ⟨hjl, hh⟩ c
          · rfl
        rw [drop_onth hjl] at hy hPb
        rw [List.pairwise_cons] at hPb
        rcases List.mem_cons.1 hy with rfl | hy
        · exact ha
        · exact aheadT_trans ha (hPb.1 y hy)
      · rw [List.drop_eq_nil_of_le (by omega)] at hy
        cases hy
    have hno : ∀ x ∈ F, keyT t ≠ keyT x := fun x hx e => by
      rcases (hmem x).1 hx with h | h
      · exact ahead_key (hPre x h) e.symm
      · exact ahead_key (hPost x h) e
    have hnoL : ¬ ∃ t' ∈ L, keyT t' = keyT t := fun ⟨t', ht', hk'⟩ => by
      have : (⟨t.per, t.nam, t.yr, sumK (keyT t) L⟩ : Tt) ∈ F := (hM _).2 ⟨⟨t', ht', hk'⟩, rfl⟩
      exact hno _ this rfl
    have hs0 : sumK (keyT t) L = 0 := ((sumsOf_some (keyT t) L).2 hnoL).2
    refine ⟨?_, fun x => ?_⟩
    · rw [List.pairwise_append]
      refine ⟨hPa, ?_, fun x hx y hy => ?_⟩
      · rw [List.singleton_append, List.pairwise_cons]
        exact ⟨hPost, hPb⟩
      · rw [List.singleton_append] at hy
        rcases List.mem_cons.1 hy with rfl | hy
        · exact hPre x hx
        · exact hPc x hx y hy
    · rw [List.mem_append, List.singleton_append, List.mem_cons, sumK_append, sumK_one]
      constructor
      · intro hx
        by_cases e : x = t
        · subst e
          exact ⟨⟨x, by simp, rfl⟩, by rw [if_pos rfl, hs0]; omega⟩
        · have hxF : x ∈ F := by
            rw [hmem]
            rcases hx with h | h | h
            · exact .inl h
            · exact absurd h e
            · exact .inr h
          obtain ⟨⟨t', ht', hk'⟩, hm'⟩ := (hM x).1 hxF
          exact ⟨⟨t', List.mem_append_left _ ht', hk'⟩, by rw [if_neg (hno x hxF), hm']; omega⟩
      · rintro ⟨⟨t', ht', hk'⟩, hm'⟩
        by_cases e : keyT t = keyT x
        · refine .inr (.inl (same_tt e.symm ?_))
          rw [hm', if_pos e, ← e, hs0]
          omega
        · rw [if_neg e, Int.add_zero] at hm'
          have hxF : x ∈ F := (hM x).2 ⟨⟨t', by
            rcases List.mem_append.1 ht' with h | h
            · exact h
            · rw [List.mem_singleton] at h
              subst h
              exact absurd hk' e, hk'⟩, hm'⟩
          rcases (hmem x).1 hxF with h | h
          · exact .inl h
          · exact .inr (.inr h)
theorem insAt_len (j : Nat) (t : Tt) (F : List Tt) : (insAt j t F).length ≤ F.length + 1 := by
  unfold insAt
  split
  · rename_i h
    simp only [List.length_append, List.length_take, List.length_cons, List.length_drop]
    omega
  · simp only [List.length_append, List.length_take, List.length_cons, List.length_drop, List.length_nil]
    omega
theorem InvT.nodup {F L : List Tt} (h : InvT F L) : F.Nodup := by
  rw [List.nodup_iff_pairwise_ne]
  refine h.1.imp fun hab e => ?_
  subst e
  rw [aheadT_irrefl] at hab
  cases hab
theorem InvT.all {F L : List Tt} (h : InvT F L) (hm : ∀ x ∈ F, monB x.mon = true) : AllMon (sumsOf L) := by
  intro k x _ hx
  by_cases hk : ∃ t ∈ L, keyT t = k
  · rw [(sumsOf_some k L).1 hk] at hx
    obtain ⟨t, ht, rfl⟩ := hk
    have := hm ⟨t.per, t.nam, t.yr, sumK (keyT t) L⟩ ((h.2 _).2 ⟨⟨t, ht, rfl⟩, rfl⟩)
    cases hx
    exact this
  · rw [((sumsOf_some k L).2 hk).1] at hx
    cases hx
theorem InvT.notAll {F L : List Tt} (h : InvT F L) (hok : ∀ t ∈ L, OkT t) {x : Tt} (hx : x ∈ F) (hm : monB x.mon = false) : ¬ AllMon (sumsOf L) := by
  intro ha
  obtain ⟨⟨t, ht, hk⟩, hs⟩ := (h.2 x).1 hx
  have := ha (keyT x) x.mon (by rw [← hk]; exact (hok t ht).wf) (by rw [(sumsOf_some (keyT x) L).1 ⟨t, ht, hk⟩, hs])
  rw [hm] at this
  cases this
theorem InvT.list {F L : List Tt} (h : InvT F L) (hok : ∀ t ∈ L, OkT t) : ListOf (sumsOf L) (F.filter fun x => !(x.mon == 0)) := by
  refine ⟨h.nodup.sublist (List.filter_sublist), fun x => ?_⟩
  rw [List.mem_filter, h.2]
  unfold MadeBy
  constructor
  · rintro ⟨⟨⟨t, ht, hk⟩, hs⟩, hne⟩
    refine ⟨by rw [← hk]; exact (hok t ht).wf, by rw [(sumsOf_some (keyT x) L).1 ⟨t, ht, hk⟩, hs], ?_⟩
    simpa using hne
  · rintro ⟨_, hs, hne⟩
    by_cases hk : ∃ t ∈ L, keyT t = keyT x
    · rw [(sumsOf_some (keyT x) L).1 hk] at hs
      exact ⟨⟨hk, (Option.some.inj hs).symm⟩, by simpa using hne⟩
    · rw [((sumsOf_some (keyT x) L).2 hk).1] at hs
      cases hs
theorem InvT.up {F L : List Tt} (h : InvT F L) : upT (F.filter fun x => !(x.mon == 0)) = true := by
  have hp := h.1.sublist (List.filter_sublist (l := F) (p := fun x => !(x.mon == 0)))
  refine upT_iff.2 fun j hj => ?_
  have := List.pairwise_iff_getElem.1 hp j (j + 1) (by omega) hj (by omega)
  rw [onth_get (by omega), onth_get hj]
  exact this
end Go.Proofs.Ytfamnlaignjhkaa
