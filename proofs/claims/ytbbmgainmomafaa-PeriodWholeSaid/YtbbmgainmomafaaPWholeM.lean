/-
  Promise C6 (the whole), the plain mathematics: parts of an amount make it, but for a unit.
-/
import Derived.Test.YtbbmgainmomafaaPSplit
import Derived.Test.YtbbmgainmomafaaMWhole
namespace Go.Proofs.Ytbbmgainmomafaa
open Go.RowKit Mny

theorem cntW_add (l : List Int) (f : Int) (a : Nat) : ∀ b : Nat, cntW l f (a + b) = cntW l f a + cntW l (f + a) b
  | 0 => by simp [cntW]
  | b + 1 => by
    rw [← Nat.add_assoc, cntW, cntW_add l f a b, cntW, show f + ((a + b : Nat) : Int) = f + (a : Int) + (b : Int) from by omega, Int.add_assoc]
theorem cntD_add (l : List Int) {f m t : Int} (h1 : f ≤ m) (h2 : m < t) : cntD l f m + cntD l (m + 1) t = cntD l f t := by
  unfold cntD
  rw [show (t + 1 - f).toNat = (m + 1 - f).toNat + (t + 1 - (m + 1)).toNat from by omega, cntW_add, show f + ((m + 1 - f).toNat : Int) = m + 1 from by omega]
theorem wts_of {T : Int} {l : List Int} (hE : shareE T l = 0) : Wts T (sumTo l l.length) l := by
  unfold shareE at hE
  by_cases h1 : l.length < 1 ∨ 20 < l.length
  · rw [if_pos h1] at hE; omega
  · rw [if_neg h1] at hE
    by_cases h2 : T < 0 ∨ 1000000000000 < T
    · rw [if_pos h2] at hE; omega
    · rw [if_neg h2] at hE
      cases h3 : l.all ratB
      · rw [if_pos h3] at hE; omega
      · rw [if_neg (by simp [h3])] at hE
        by_cases h4 : sumTo l l.length = 0
        · rw [if_pos h4] at hE; omega
        · have hr := all_rate h3
          have hb := sumTo_bd hr l.length
          exact ⟨by omega, by omega, by omega, by omega, by omega, by omega, fun j => (hr j).1, fun j => (hr j).2, fun j => by
            by_cases hj : j < l.length
            · exact le_sumTo (fun j => (hr j).1) j _ hj
            · have : nth l j = 0 := by unfold nth; rw [List.getD_eq_getElem?_getD, List.getElem?_eq_none (by omega)]; rfl
              omega⟩

/-- Which of n things a raw number speaks of. -/
def chooseI (c n : Int) : Int := (if c < 0 then -(c + 1) else c) % n
theorem choose_any (c n : Int) (w : World) (hc : -9223372036854775808 ≤ c) (hc' : c ≤ 9223372036854775807) (hn : 1 ≤ n) (hn' : n ≤ 1000000000) :
    Calls Try.prog 29 #[.int .i64 c, .int .i64 n] w fun e w' => e = .returned (.int .i64 (chooseI c n)) ∧ w' = w := by
  have hn0 : (n == 0) = false := by simp; omega
  by_cases h : c < 0
  · have H : Hid (chooseI c n = (-(c + 1)) % n) := by unfold Hid chooseI; rw [if_pos h]
    have HE : Hid (-((c + 1).tmod n) = (-(c + 1)) % n) := by unfold Hid; rw [← Int.neg_tmod]; exact Int.tmod_eq_emod_of_nonneg (by omega)
    go_enter Try.func29, Try.ntmps29
    go_wp2
    go_ret
    exact ⟨cret_int (by rw [H.out]; first | done | rw [HE.out]), rfl⟩
  · have H : Hid (chooseI c n = c % n) := by unfold Hid chooseI; rw [if_neg h]
    have HE : Hid (c.tmod n = c % n) := Int.tmod_eq_emod_of_nonneg (by omega)
    go_enter Try.func29, Try.ntmps29
    go_wp2
    go_ret
    exact ⟨cret_int (by rw [H.out]; first | done | rw [HE.out]), rfl⟩
theorem choose_bd (c n : Int) (hn : 1 ≤ n) : 0 ≤ chooseI c n ∧ chooseI c n < n :=
  ⟨Int.emod_nonneg _ (by omega), Int.emod_lt_of_pos _ (by omega)⟩

theorem cntP_add (l : List Int) {ba f c t : Int} (hb : ba = 1 ∨ ba = 2) (h1 : f < c) (h2 : c ≤ t) : cntP l ba f (c - 1) + cntP l ba c t = cntP l ba f t := by
  unfold cntP
  rcases hb with rfl | rfl
  · simp only [if_true]
    omega
  · rw [if_neg (by decide), if_neg (by decide), if_neg (by decide)]
    have := cntD_add l (f := f) (m := c - 1) (t := t) (by omega) (by omega)
    rwa [show c - 1 + 1 = c from by omega] at this
theorem rd_all (A C way : Int) (hC : 1 ≤ C) : rd (A * C) C way = A := by
  unfold rd
  rw [Int.mul_emod_left, if_pos rfl, Int.mul_ediv_cancel _ (by omega)]
theorem rd_two {A C x y : Int} (hC : 1 ≤ C) (h : x + y = C) : -1 ≤ rd (A * x) C 5 + rd (A * y) C 5 - A ∧ rd (A * x) C 5 + rd (A * y) C 5 - A ≤ 1 := by
  have h1 := rd_half (A * x) C 5 hC (.inl rfl)
  have h2 := rd_half (A * y) C 5 hC (.inl rfl)
  have e : A * x + A * y = A * C := by rw [← Int.mul_add, h]
  generalize rd (A * x) C 5 = r at *
  generalize rd (A * y) C 5 = q at *
  have e2 : (r + q - A) * C = r * C + q * C - A * C := by rw [Int.sub_mul, Int.add_mul]
  have lo : (-1) * C ≤ (r + q - A) * C := by rw [e2]; omega
  have hi : (r + q - A) * C ≤ 1 * C := by rw [e2]; omega
  exact ⟨Int.le_of_mul_le_mul_right lo (by omega), Int.le_of_mul_le_mul_right hi (by omega)⟩
theorem rd_floor (n d way : Int) : n / d ≤ rd n d way ∧ rd n d way ≤ n / d + 1 := by
  unfold rd
  (repeat' split) <;> omega
/-- What Prorate answers where nothing is wrong. -/
theorem pro_ok {l : List Int} {am f t g u ba n : Int} (h : ProIs l am f t g u ba n 0) : (ba = 1 ∨ ba = 2) ∧ monB am = true ∧ perB f t = true ∧ checkE l [f, t] = 0 ∧ cntP l ba f t ≠ 0 ∧ (min t u < max f g ∧ n = 0 ∨ max f g ≤ min t u ∧ n = rd (am * cntP l ba (max f g) (min t u)) (cntP l ba f t) 5) := by
  rcases h with ⟨_, _, h⟩ | ⟨hb, h⟩
  · cases h
  · rcases h with ⟨_, _, h⟩ | ⟨h1, h2, h⟩
    · cases h
    · rcases h with ⟨h3, _, h⟩ | ⟨h3, h⟩
      · exact absurd h.symm h3
      · rcases h with ⟨_, _, h⟩ | ⟨h4, h⟩
        · cases h
        · rcases h with ⟨h5, h6, _⟩ | ⟨h5, h6, _⟩
          · exact ⟨hb, h1, h2, h3, h4, .inl ⟨h5, h6⟩⟩
          · exact ⟨hb, h1, h2, h3, h4, .inr ⟨h5, h6⟩⟩
theorem pro_is {l : List Int} {am f t g u ba n e : Int} (hb : ba = 1 ∨ ba = 2) (h1 : monB am = true) (h2 : perB f t = true) (h3 : checkE l [f, t] = 0) (h4 : cntP l ba f t ≠ 0) (h : ProIs l am f t g u ba n e) : e = 0 := by
  rcases h with ⟨h, _, _⟩ | ⟨_, h⟩
  · exact absurd hb h
  · rcases h with ⟨h, _, _⟩ | ⟨_, _, h⟩
    · rcases h with h | h
      · rw [h1] at h; cases h
      · rw [h2] at h; cases h
    · rcases h with ⟨h, _, _⟩ | ⟨_, h⟩
      · exact absurd h3 h
      · rcases h with ⟨h, _, _⟩ | ⟨_, h⟩
        · exact absurd h h4
        · rcases h with ⟨_, _, h⟩ | ⟨_, _, h⟩
          · exact h
          · exact h
/-- The four answers of the law's four questions. -/
theorem four {l : List Int} {A f t c ba n1 n2 n3 n4 e2 e3 e4 : Int} (hc1 : f ≤ c) (hc2 : c ≤ t) (h1 : ProIs l A f t f t ba n1 0) (h2 : ProIs l A f t f (c - 1) ba n2 e2) (h3 : ProIs l A f t c t ba n3 e3) (h4 : ProIs l A f t (t + 1) (t + 9) ba n4 e4) :
    e2 = 0 ∧ e3 = 0 ∧ e4 = 0 ∧ n1 = A ∧ n4 = 0 ∧ (-1 ≤ n2 + n3 - A ∧ n2 + n3 - A ≤ 1) ∧ (ba = 1 → f < c → n2 = rd (A * (c - f)) (t - f + 1) 5) ∧ (-1000000000000000001 ≤ n2 ∧ n2 ≤ 1000000000000000001) ∧ (-1000000000000000001 ≤ n3 ∧ n3 ≤ 1000000000000000001) ∧ monB A = true ∧ perB f t = true := by
  obtain ⟨hb, hm, hp, hk, hz, q1⟩ := pro_ok h1
  obtain rfl := pro_is hb hm hp hk hz h2
  obtain rfl := pro_is hb hm hp hk hz h3
  obtain rfl := pro_is hb hm hp hk hz h4
  obtain ⟨_, _, _, _, _, q2⟩ := pro_ok h2
  obtain ⟨_, _, _, _, _, q3⟩ := pro_ok h3
  obtain ⟨_, _, _, _, _, q4⟩ := pro_ok h4
  obtain ⟨pf0, pft, pt1⟩ := perB_iff.1 hp
  obtain ⟨m0, m1⟩ := monB_iff.1 hm
  have hC := cntP_bd l hb pf0 pft pt1
  rw [show max f f = f from by omega, show min t t = t from by omega] at q1
  rw [show max f f = f from by omega] at q2
  rw [show max f c = c from by omega, show min t t = t from by omega] at q3
  have e1 : n1 = A := by
    rcases q1 with ⟨h, _⟩ | ⟨_, h⟩
    · omega
    · rw [h, rd_all _ _ _ (by omega)]
  have e4 : n4 = 0 := by
    rcases q4 with ⟨_, h⟩ | ⟨h, _⟩
    · exact h
    · omega
  have e3 : n3 = rd (A * cntP l ba c t) (cntP l ba f t) 5 := by
    rcases q3 with ⟨h, _⟩ | ⟨_, h⟩
    · omega
    · exact h
  have hb3 := cntP_bd l hb (show 0 ≤ c by omega) hc2 pt1
  have hp3 := prod_bd (a := A) (r := cntP l ba c t) m0 m1 hb3.1 (by omega)
  have bd3 := rd_bound (A * cntP l ba c t) (cntP l ba f t) 5 (by omega) hp3.1 hp3.2
  by_cases hcf : f < c
  · rw [show min t (c - 1) = c - 1 from by omega] at q2
    have e2 : n2 = rd (A * cntP l ba f (c - 1)) (cntP l ba f t) 5 := by
      rcases q2 with ⟨h, _⟩ | ⟨_, h⟩
      · omega
      · exact h
    have hb2 := cntP_bd l hb pf0 (show f ≤ c - 1 by omega) (by omega)
    have hp2 := prod_bd (a := A) (r := cntP l ba f (c - 1)) m0 m1 hb2.1 (by omega)
    have bd2 := rd_bound (A * cntP l ba f (c - 1)) (cntP l ba f t) 5 (by omega) hp2.1 hp2.2
    refine ⟨rfl, rfl, rfl, e1, e4, ?_, fun h _ => ?_, by rw [e2]; exact bd2, by rw [e3]; exact bd3, hm, hp⟩
    · rw [e2, e3]
      exact rd_two (by omega) (cntP_add l hb hcf hc2)
    · subst h
      rw [e2]
      unfold cntP
      rw [if_pos rfl, if_pos rfl, show c - 1 - f + 1 = c - f from by omega]
  · obtain rfl : c = f := by omega
    have e2 : n2 = 0 := by
      rcases q2 with ⟨_, h⟩ | ⟨h, _⟩
      · exact h
      · omega
    have e3' : n3 = A := by rw [e3, rd_all _ _ _ (by omega)]
    refine ⟨rfl, rfl, rfl, e1, e4, by rw [e2, e3']; omega, fun _ h => absurd h hcf, by rw [e2]; omega, by rw [e3]; exact bd3, hm, hp⟩
/-- What is split in two. -/
theorem split_two {A f t c : Int} (hp : perB f t = true) (h : splE A f t [c] = 0) : f < c ∧ c ≤ t ∧ nth (shareL A (lens f t [c])) 0 + nth (shareL A (lens f t [c])) 1 = A ∧ A * (c - f) / (t - f + 1) ≤ nth (shareL A (lens f t [c])) 0 ∧ nth (shareL A (lens f t [c])) 0 ≤ A * (c - f) / (t - f + 1) + 1 ∧ 0 ≤ A ∧ A ≤ 1000000000000 := by
  unfold splE at h
  rw [if_neg (by simp [hp]), if_neg (by simp)] at h
  cases hcb : cutB f t [c] [c].length
  · rw [if_pos hcb] at h; cases h
  · rw [if_neg (by rw [hcb]; decide)] at h
    have hct := cutB_iff.1 hcb 0 (by simp)
    have hct' : f < c ∧ c ≤ t := hct
    have hlens : lens f t [c] = [c - f, t - c + 1] := rfl
    rw [hlens] at h ⊢
    have hw := wts_of h
    have hsum : sumTo [c - f, t - c + 1] [c - f, t - c + 1].length = t - f + 1 := by
      show (0 + (c - f)) + (t - c + 1) = t - f + 1
      omega
    have hf := share_facts hw
    rw [hsum] at hf
    obtain ⟨f1, f2, _⟩ := hf
    have g0 := f2 0 (by simp)
    have f1' : (0 + nth (shareL A [c - f, t - c + 1]) 0) + nth (shareL A [c - f, t - c + 1]) 1 = A := f1
    exact ⟨hct'.1, hct'.2, by omega, g0.1, g0.2.1, hw.t0, hw.t1⟩
end Go.Proofs.Ytbbmgainmomafaa
