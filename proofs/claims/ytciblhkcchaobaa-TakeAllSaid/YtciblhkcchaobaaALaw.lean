/-
  What more gross does, and what is owed (pure); the law's choose and numberIs: their walks.
-/
import Derived.Test.YtciblhkcchaobaaALeast
namespace Go.Proofs.Ytciblhkcchaobaa
open Go.RowKit

/-- More gross leaves no less. -/
theorem lft_mono {g g' k : Int} {l : List Cl} (hg : 0 ≤ g) (hgg : g ≤ g') (hk : 0 ≤ k) (h : Fine l) {j : Nat} (hj : j ≤ l.length) : lft g k l j ≤ lft g' k l j := by
  rw [lft_asked hg hk h j hj, lft_asked (by omega) hk h j hj]
  omega
theorem more_pure {g g' k : Int} {l : List Cl} (hg : 0 ≤ g) (hgg : g ≤ g') (hk : 0 ≤ k) (h : Fine l) {j : Nat} (hj : j < l.length) : now g k l j ≤ now g' k l j ∧ bef g k l j ≤ bef g' k l j ∧ owe g' k l j ≤ owe g k l j := by
  have := lft_mono (g := g) (g' := g') hg hgg hk h (j := j) (by omega)
  have := h.2 j hj
  unfold owe bef now
  omega
/-- What is owed behind so many claims. -/
def sumOwe (g k : Int) (l : List Cl) : Nat → Int
  | 0 => 0
  | j + 1 => sumOwe g k l j + owe g k l j
theorem sumOwe_eq (g k : Int) (l : List Cl) : ∀ j, sumOwe g k l j = asked l j - (lft g k l 0 - lft g k l j)
  | 0 => by rw [sumOwe, asked]; omega
  | j + 1 => by
    rw [sumOwe, sumOwe_eq g k l j, asked, lft_succ]
    unfold owe
    omega
theorem owe_bd {g k : Int} {l : List Cl} (hg : 0 ≤ g) (hk : 0 ≤ k) (h : Fine l) {j : Nat} (hj : j < l.length) : 0 ≤ now g k l j ∧ 0 ≤ bef g k l j ∧ 0 ≤ owe g k l j ∧ now g k l j ≤ due (cnth l j) ∧ bef g k l j ≤ (cnth l j).owed ∧ owe g k l j ≤ 2000000000000 ∧ now g k l j + bef g k l j + owe g k l j = due (cnth l j) + (cnth l j).owed := by
  have := lft_bd hg hk h j (by omega)
  have := h.2 j hj
  unfold owe bef now
  omega
theorem sumOwe_bd {g k : Int} {l : List Cl} (hg : 0 ≤ g) (hk : 0 ≤ k) (h : Fine l) : ∀ j : Nat, j ≤ l.length → 0 ≤ sumOwe g k l j ∧ sumOwe g k l j ≤ 2000000000000 * j
  | 0, _ => by simp [sumOwe]
  | j + 1, hj => by
    have ih := sumOwe_bd hg hk h j (by omega)
    have := owe_bd hg hk h (j := j) (by omega)
    rw [sumOwe]
    omega
theorem claimE_gross {g g' k : Int} {l : List Cl} (h : claimE g k l = 0) (h0 : 0 ≤ g') (h1 : g' ≤ 1000000000000) : claimE g' k l = 0 := by
  unfold claimE at *
  by_cases h3 : 30 < l.length
  · rw [if_pos h3] at h; omega
  · rw [if_neg h3] at h ⊢
    by_cases h4 : (cmB g && cmB k && (clsB l && capsB l)) = false
    · rw [if_pos h4] at h; omega
    · rw [if_neg]
      rw [show cmB g' = true from cmB_iff.2 ⟨h0, h1⟩]
      intro h5
      apply h4
      cases h6 : cmB g
      · rfl
      · exact h5
/-- Which of n things a raw number speaks of. -/
def chooseI (c n : Int) : Int := (if c < 0 then -(c + 1) else c) % n
theorem choose_any (c n : Int) (w : World) (hc : -9223372036854775808 ≤ c) (hc' : c ≤ 9223372036854775807) (hn : 1 ≤ n) (hn' : n ≤ 1000000000) :
    Calls Try.prog 20 #[.int .i64 c, .int .i64 n] w fun e w' => e = .returned (.int .i64 (chooseI c n)) ∧ w' = w := by
  have hn0 : (n == 0) = false := by simp; omega
  by_cases h : c < 0
  · have H : Hid (chooseI c n = (-(c + 1)) % n) := by unfold Hid chooseI; rw [if_pos h]
    have HE : Hid (-((c + 1).tmod n) = (-(c + 1)) % n) := by unfold Hid; rw [← Int.neg_tmod]; exact Int.tmod_eq_emod_of_nonneg (by omega)
    go_enter Try.func20, Try.ntmps20
    go_wp2
    go_ret
    exact ⟨uret_int (by rw [H.out]; first | done | rw [HE.out]), rfl⟩
  · have H : Hid (chooseI c n = c % n) := by unfold Hid chooseI; rw [if_neg h]
    have HE : Hid (c.tmod n = c % n) := Int.tmod_eq_emod_of_nonneg (by omega)
    go_enter Try.func20, Try.ntmps20
    go_wp2
    go_ret
    exact ⟨uret_int (by rw [H.out]; first | done | rw [HE.out]), rfl⟩
theorem choose_bd (c n : Int) (hn : 1 ≤ n) : 0 ≤ chooseI c n ∧ chooseI c n < n :=
  ⟨Int.emod_nonneg _ (by omega), Int.emod_lt_of_pos _ (by omega)⟩
theorem numberIs_same (n e : Int) (w : World) (h : e ≠ 0 → n = 0) : Calls Try.prog 15 #[.int .i64 n, .int .i64 e, .int .i64 e, .int .i64 n] w fun r w' => r = .returned (.bool true) ∧ w' = w := by
  by_cases h0 : e = 0
  · subst h0
    go_enter Try.func15, Try.ntmps15
    go_wp2
    go_ret
    exact ⟨uret_bool (by simp), rfl⟩
  · have hn := h h0
    subst hn
    clear h
    have hb : (e != 0) = true := by simp [h0]
    go_enter Try.func15, Try.ntmps15
    go_wp2
    go_ret
    exact ⟨uret_bool (by simp), rfl⟩
theorem numberIs_err (x e : Int) (w : World) (h : e ≠ 0) : Calls Try.prog 15 #[.int .i64 0, .int .i64 e, .int .i64 e, .int .i64 x] w fun r w' => r = .returned (.bool true) ∧ w' = w := by
  have hb : (e != 0) = true := by simp [h]
  have hb' : decide (e = 0) = false := decide_eq_false h
  go_enter Try.func15, Try.ntmps15
  go_wp2
  go_ret
  exact ⟨uret_bool (by simp), rfl⟩
/-- The rows of what is taken, one by one. -/
theorem TkAt.open {w : World} {x : Option Addr} {n : Nat} {g k : Int} {l : List Cl} (h : TkAt w x n (takenL g k l n)) (h0 : 0 < n) : ∃ gg, x = some ⟨gg, 0, none⟩ ∧ ∀ w', Below w.heap.size w w' → ∀ j, j < n → w'.cell? ⟨gg, j * 3, none⟩ = some (.int .i64 (now g k l j)) ∧ w'.cell? ⟨gg, j * 3 + 1, none⟩ = some (.int .i64 (bef g k l j)) ∧ w'.cell? ⟨gg, j * 3 + 2, none⟩ = some (.int .i64 (owe g k l j)) := by
  rcases h with h | ⟨gg, hx, hat⟩
  · omega
  · refine ⟨gg, hx, fun w' hb j hj => ?_⟩
    have hl := takenL_length g k l n
    have ha := hat.below hb hat.1
    obtain ⟨e0, e1, e2⟩ := takenL_nth g k l n j hj
    have p0 := ha.2 (j * 3) (by rw [hl]; omega)
    have p1 := ha.2 (j * 3 + 1) (by rw [hl]; omega)
    have p2 := ha.2 (j * 3 + 2) (by rw [hl]; omega)
    rw [Nat.zero_add, e0] at p0
    rw [Nat.zero_add, e1] at p1
    rw [Nat.zero_add, e2] at p2
    exact ⟨p0, p1, p2⟩
end Go.Proofs.Ytciblhkcchaobaa
