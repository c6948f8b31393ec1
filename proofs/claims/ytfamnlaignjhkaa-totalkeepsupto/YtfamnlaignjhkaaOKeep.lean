/-
  Promise M5: sums by a name are those of both; what is gathered in another order is the same: plain mathematics, and choose.
-/
import Derived.Test.YtfamnlaignjhkaaOJoin
namespace Go.Proofs.Ytfamnlaignjhkaa
open Go.RowKit Go.Sort

theorem find_place (t : Tt) : ∀ F : List Tt, ∃ j, j ≤ F.length ∧ (∀ i, i < j → aheadT (onth F i) t = true) ∧ (j < F.length → aheadT (onth F j) t = false)
  | [] => ⟨0, Nat.le_refl _, fun i hi => absurd hi (by omega), fun h => absurd h (by simp)⟩
  | x :: F => by
    cases hx : aheadT x t
    · exact ⟨0, Nat.zero_le _, fun i hi => absurd hi (by omega), fun _ => hx⟩
    · obtain ⟨j, h1, h2, h3⟩ := find_place t F
      refine ⟨j + 1, by simpa using h1, fun i hi => ?_, fun h => h3 (by simpa using h)⟩
      cases i with
      | zero => exact hx
      | succ i => exact h2 i (by omega)
theorem sumNY_one (s : ByteArray) (y : Int) (t : Tt) : sumNY s y [t] = if nyB s y t = true then t.mon else 0 := by simp [sumNY]
theorem sumNY_ins {s : ByteArray} {y : Int} {F : List Tt} {t : Tt} {j : Nat} (h2 : j < F.length → aheadT (onth F j) t = false) : sumNY s y (insAt j t F) = sumNY s y F + sumNY s y [t] := by
  have hsplit : sumNY s y F = sumNY s y (F.take j) + sumNY s y (F.drop j) := by rw [← sumNY_append, List.take_append_drop]
  unfold insAt
  by_cases c : j < F.length ∧ aheadT t (onth F j) = false
  · rw [if_pos c, sumNY_append, hsplit, drop_onth c.1]
    obtain ⟨_, e2, e3⟩ := aheadT_tri (h2 c.1) c.2
    have e4 : nyB s y (addT (onth F j) t) = nyB s y (onth F j) := rfl
    have e5 : nyB s y t = nyB s y (onth F j) := by unfold nyB; rw [e2, e3]
    rw [sumNY, sumNY, sumNY_one, e4, e5, show (addT (onth F j) t).mon = (onth F j).mon + t.mon from rfl]
    split <;> omega
  · rw [if_neg c, sumNY_append, sumNY_append, hsplit]
    omega
theorem inv_exists (L : List Tt) : ∃ F, InvT F L ∧ ∀ s y, sumNY s y F = sumNY s y L := by
  suffices h : ∀ R : List Tt, ∃ F, InvT F R.reverse ∧ ∀ s y, sumNY s y F = sumNY s y R.reverse by
    have := h L.reverse
    rwa [List.reverse_reverse] at this
  intro R
  induction R with
  | nil => exact ⟨[], InvT.nil, fun _ _ => rfl⟩
  | cons t R ih =>
    obtain ⟨F, h1, h2⟩ := ih
    obtain ⟨j, hj, g1, g2⟩ := find_place t F
    rw [List.reverse_cons]
    exact ⟨insAt j t F, ins_step h1 hj g1 g2, fun s y => by rw [sumNY_ins g2, sumNY_append, h2]⟩
theorem sumNY_filter (s : ByteArray) (y : Int) : ∀ F : List Tt, sumNY s y (F.filter fun x => !(x.mon == 0)) = sumNY s y F
  | [] => rfl
  | t :: F => by
    by_cases hz : t.mon = 0
    · rw [List.filter_cons_of_neg (by simp [hz]), sumNY_filter s y F, sumNY, hz]
      split <;> omega
    · rw [List.filter_cons_of_pos (by simp [hz]), sumNY, sumNY, sumNY_filter s y F]
theorem made_sum {L X : List Tt} (hok : ∀ t ∈ L, OkT t) (h : ListOf (sumsOf L) X) (hu : upT X = true) (s : ByteArray) (y : Int) : sumNY s y X = sumNY s y L := by
  obtain ⟨F, h1, h2⟩ := inv_exists L
  have e : X = F.filter fun x => !(x.mon == 0) := up_unique hu h1.up (list_perm h (h1.list hok))
  rw [e, sumNY_filter, h2]
theorem sumE_ok {l : List Tt} {s : ByteArray} {y : Int} (h : sumE l s y = 0) : totE l = 0 ∧ namB s = true ∧ yrB y = true := by
  unfold sumE at h
  split at h
  · rename_i h0
    split at h
    · rename_i h1
      split at h
      · rename_i h2; exact ⟨h0, h1, h2⟩
      · cases h
    · cases h
  · rename_i h0; exact absurd h h0
theorem sumE_of {l : List Tt} {s : ByteArray} {y : Int} (h0 : totE l = 0) (h1 : namB s = true) (h2 : yrB y = true) : sumE l s y = 0 ∧ sumV l s y = sumNY s y l := by
  have e : sumE l s y = 0 := by unfold sumE; rw [if_pos h0, if_pos h1, if_pos h2]
  exact ⟨e, by unfold sumV; rw [if_pos e]⟩
theorem check_turn {b : Bool} {l m : List Tt} (h : checkE b (l ++ m) = 0) : checkE b (m ++ l) = 0 := by
  have hl : (l ++ m).length = (m ++ l).length := by rw [List.length_append, List.length_append]; omega
  unfold checkE at h ⊢
  by_cases h4 : 400 < (l ++ m).length
  · rw [if_pos h4] at h; cases h
  · rw [if_neg h4] at h
    rw [if_neg (by omega)]
    refine firstW_ok fun j hj => firstW_zero h _ ?_
    have := onth_mem hj
    rw [List.mem_append] at this ⊢
    exact this.symm
/-- Gathered in another order. -/
theorem gath_turn {l m : List Tt} {w w' : World} {v v' : Value} {er' : Int} (h : GathRet (l ++ m) w v 0) (h' : GathRet (m ++ l) w' v' er') :
    er' = 0 ∧ ∃ X x c x' c', v = .slice x X.length c ∧ v' = .slice x' X.length c' ∧ CameO w x X ∧ CameO w' x' X ∧ X.length ≤ 400 := by
  rcases h with ⟨h1, h2, _⟩ | ⟨h1, h2⟩
  · exact absurd h2.symm h1
  · rcases h' with ⟨h1', _, _⟩ | ⟨_, h2'⟩
    · exact absurd (check_turn h1) h1'
    · rw [sums_turn] at h2'
      obtain ⟨e, rest⟩ := h2.det h2'
      exact ⟨e.symm, rest⟩
def chooseI (c n : Int) : Int := if c < 0 then (-(c + 1)) % n else c % n
theorem choose_any (c n : Int) (w : World) (hc : -9223372036854775808 ≤ c) (hc' : c ≤ 9223372036854775807) (hn : 1 ≤ n) (hn' : n ≤ 1000000000) :
    Calls Try.prog 27 #[.int .i64 c, .int .i64 n] w fun e w' => e = .returned (.int .i64 (chooseI c n)) ∧ w' = w := by
  have hn0 : (n == 0) = false := by simp; omega
  by_cases h : c < 0
  · have H : Hid (chooseI c n = (-(c + 1)) % n) := by unfold Hid chooseI; rw [if_pos h]
    have HE : Hid (-((c + 1).tmod n) = (-(c + 1)) % n) := by unfold Hid; rw [← Int.neg_tmod]; exact Int.tmod_eq_emod_of_nonneg (by omega)
    go_enter Try.func27, Try.ntmps27
    go_wp2
    go_ret
    exact ⟨oret_int (by rw [H.out]; first | done | rw [HE.out]), rfl⟩
  · have H : Hid (chooseI c n = c % n) := by unfold Hid chooseI; rw [if_neg h]
    have HE : Hid (c.tmod n = c % n) := Int.tmod_eq_emod_of_nonneg (by omega)
    go_enter Try.func27, Try.ntmps27
    go_wp2
    go_ret
    exact ⟨oret_int (by rw [H.out]; first | done | rw [HE.out]), rfl⟩
theorem choose_nat (c : Int) (n : Nat) (hn : 1 ≤ n) : ∃ k : Nat, chooseI c n = (k : Int) ∧ k < n := by
  have h1 : 0 ≤ chooseI c n := by unfold chooseI; split <;> exact Int.emod_nonneg _ (by omega)
  have h2 : chooseI c n < n := by unfold chooseI; split <;> exact Int.emod_lt_of_pos _ (by omega)
  exact ⟨(chooseI c n).toNat, by omega, by omega⟩
end Go.Proofs.Ytfamnlaignjhkaa
