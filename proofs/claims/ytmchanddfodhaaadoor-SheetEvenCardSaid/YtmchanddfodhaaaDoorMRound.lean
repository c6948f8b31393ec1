/-
  Plain mathematics of promise A1 (rounding): the number that a fraction is rounded to by each of six ways, and that both texts' reckonings come to it. No condition beyond those of each theorem.
-/
namespace Go.Proofs.YtmchanddfodhaaaDoor

/-- Does the way go up from the whole number below? -/
def goesUp (n d way : Int) : Bool :=
  if way = 1 then decide (n < 0)
  else if way = 2 then decide (0 < n)
  else if way = 4 then true
  else if way = 5 then decide (d < 2 * (n % d)) || (decide (2 * (n % d) = d) && decide (0 < n))
  else if way = 6 then decide (d < 2 * (n % d)) || (decide (2 * (n % d) = d) && decide ((n / d) % 2 ≠ 0))
  else false

/-- What n over d is rounded to. -/
def rd (n d way : Int) : Int := if n % d = 0 then n / d else if goesUp n d way = true then n / d + 1 else n / d

/-- Whether the step away from nought is taken, as the program asks it. -/
def stepsB (whole rest d way : Int) : Bool :=
  if way = 2 then true
  else if way = 3 then decide (rest < 0)
  else if way = 4 then decide (0 < rest)
  else if way = 5 then decide (d ≤ 2 * max rest (-rest))
  else if way = 6 then decide (d < 2 * max rest (-rest)) || (decide (2 * max rest (-rest) = d) && decide (whole.tmod 2 ≠ 0))
  else false

/-- As the program reckons it. -/
def rdP (n d way : Int) : Int :=
  if n.tmod d = 0 ∨ stepsB (n.tdiv d) (n.tmod d) d way = false then n.tdiv d else if n < 0 then n.tdiv d - 1 else n.tdiv d + 1

theorem tdiv_facts (n d : Int) (hd : 1 ≤ d) : n.tdiv d * d + n.tmod d = n ∧ (0 ≤ n → 0 ≤ n.tmod d ∧ n.tmod d < d) ∧ (n ≤ 0 → n.tmod d ≤ 0 ∧ -d < n.tmod d) := by
  refine ⟨by have := Int.tdiv_mul_add_tmod n d; omega, fun h => ⟨Int.tmod_nonneg d h, Int.tmod_lt_of_pos n (by omega)⟩, fun h => ?_⟩
  have h1 : (-n).tmod d = -(n.tmod d) := Int.neg_tmod n d
  have h2 := Int.tmod_nonneg d (a := -n) (by omega)
  have h3 := Int.tmod_lt_of_pos (-n) (b := d) (by omega)
  omega

theorem ediv_facts (n d : Int) (hd : 1 ≤ d) : n / d * d + n % d = n ∧ 0 ≤ n % d ∧ n % d < d :=
  ⟨by have := Int.ediv_mul_add_emod n d; omega, Int.emod_nonneg n (by omega), Int.emod_lt_of_pos n (by omega)⟩

/-- The truncated quotient and the floor. -/
theorem tdiv_floor (n d : Int) (hd : 1 ≤ d) :
    (n.tmod d = n % d ∧ n.tdiv d = n / d ∧ 0 ≤ n.tmod d) ∨ (n < 0 ∧ n % d ≠ 0 ∧ n.tmod d = n % d - d ∧ n.tdiv d = n / d + 1 ∧ n.tmod d < 0) := by
  obtain ⟨a, b, c⟩ := tdiv_facts n d hd
  obtain ⟨e, f, g⟩ := ediv_facts n d hd
  generalize hq : n.tdiv d = q at *
  generalize hr : n.tmod d = r at *
  generalize hQ : n / d = Q at *
  generalize hR : n % d = R at *
  clear hq hr hQ hR
  have key : (q - Q) * d = R - r := by rw [Int.sub_mul]; omega
  by_cases h0 : 0 ≤ r
  · left
    have hr2 : r < d := by
      by_cases h : 0 ≤ n
      · exact (b h).2
      · have := (c (by omega)).1; omega
    have hqq : q - Q = 0 := by
      rcases Int.lt_trichotomy (q - Q) 0 with h | h | h
      · have : (q - Q) * d ≤ (-1) * d := Int.mul_le_mul_of_nonneg_right (by omega) (by omega)
        omega
      · exact h
      · have : 1 * d ≤ (q - Q) * d := Int.mul_le_mul_of_nonneg_right (by omega) (by omega)
        omega
    rw [hqq] at key
    omega
  · right
    have hn : n < 0 := by
      by_cases h : 0 ≤ n
      · have := (b h).1; omega
      · omega
    have hr2 := (c (by omega)).2
    have hqq : q - Q = 1 := by
      rcases Int.lt_trichotomy (q - Q) 1 with h | h | h
      · have : (q - Q) * d ≤ 0 * d := Int.mul_le_mul_of_nonneg_right (by omega) (by omega)
        omega
      · exact h
      · have : 2 * d ≤ (q - Q) * d := Int.mul_le_mul_of_nonneg_right (by omega) (by omega)
        omega
    rw [hqq] at key
    omega

theorem tmod2 (x : Int) : (x.tmod 2 = 0 ↔ x % 2 = 0) := by
  have h := tdiv_floor x 2 (by omega)
  omega

/-- THE PROGRAM's RECKONING IS THE DOCUMENT's. -/
theorem rdP_eq (n d way : Int) (hd : 1 ≤ d) (h1 : 1 ≤ way) (h6 : way ≤ 6) : rdP n d way = rd n d way := by
  obtain ⟨e, f, g⟩ := ediv_facts n d hd
  obtain ⟨a, b, c⟩ := tdiv_facts n d hd
  have t2 := tmod2 (n.tdiv d)
  have hw : way = 1 ∨ way = 2 ∨ way = 3 ∨ way = 4 ∨ way = 5 ∨ way = 6 := by omega
  rcases tdiv_floor n d hd with ⟨h1, h2, h3⟩ | ⟨hn, h0, h1, h2, h3⟩
  · have hm : max (n.tmod d) (-(n.tmod d)) = n % d := by omega
    unfold rdP rd stepsB goesUp
    rw [hm, h1, h2]
    rw [h2] at t2
    rw [h1] at b c
    generalize n / d = Q at *
    generalize n % d = R at *
    clear a h1 h2 hm
    have hn : R ≠ 0 → 0 < n := fun h => by
      by_cases h' : 0 < n
      · exact h'
      · have := c (by omega); omega
    by_cases hR : R = 0
    · simp [hR]
    · have hn' := hn hR
      have hn'' : ¬ n < 0 := by omega
      rcases hw with rfl | rfl | rfl | rfl | rfl | rfl <;> simp [hR, hn', hn''] <;> (repeat' split) <;> simp_all <;> omega
  · have hm : max (n.tmod d) (-(n.tmod d)) = d - n % d := by omega
    unfold rdP rd stepsB goesUp
    rw [hm, h1, h2]
    rw [h2] at t2
    rw [h1] at b c
    generalize n / d = Q at *
    generalize n % d = R at *
    clear a h1 h2 hm
    have hR : R ≠ 0 := h0
    have hx : ¬ R - d = 0 := by omega
    have hn'' : ¬ 0 < n := by omega
    rcases hw with rfl | rfl | rfl | rfl | rfl | rfl <;> simp [hR, hx, hn, hn''] <;> (repeat' split) <;> simp_all <;> omega

theorem rd_near (n d way : Int) (hd : 1 ≤ d) : -d < rd n d way * d - n ∧ rd n d way * d - n < d := by
  obtain ⟨e, f, g⟩ := ediv_facts n d hd
  unfold rd
  split
  · omega
  · split
    · rw [Int.add_mul]; omega
    · omega

theorem rd_half (n d way : Int) (hd : 1 ≤ d) (hw : way = 5 ∨ way = 6) : -d ≤ 2 * (rd n d way * d - n) ∧ 2 * (rd n d way * d - n) ≤ d := by
  obtain ⟨e, f, g⟩ := ediv_facts n d hd
  unfold rd
  split
  · omega
  · have h5 : goesUp n d way = true → d ≤ 2 * (n % d) := by
      intro h; unfold goesUp at h; rcases hw with rfl | rfl <;> simp at h <;> omega
    have h6 : goesUp n d way ≠ true → 2 * (n % d) ≤ d := by
      intro h; unfold goesUp at h; rcases hw with rfl | rfl <;> simp at h <;> omega
    split
    · have := h5 ‹_›; rw [Int.add_mul]; omega
    · have := h6 ‹_›; omega

theorem rd_mono (n m d way : Int) (hd : 1 ≤ d) (h1 : 1 ≤ way) (h6 : way ≤ 6) (h : n ≤ m) : rd n d way ≤ rd m d way := by
  obtain ⟨e, f, g⟩ := ediv_facts n d hd
  obtain ⟨e', f', g'⟩ := ediv_facts m d hd
  have hQ : n / d ≤ m / d := Int.ediv_le_ediv (by omega) h
  have hlo : ∀ x, x / d ≤ rd x d way ∧ rd x d way ≤ x / d + 1 := by
    intro x; unfold rd; split
    · omega
    · split <;> omega
  by_cases hlt : n / d < m / d
  · have a := hlo n; have b := hlo m; omega
  · have hq : n / d = m / d := by omega
    have hneg : n < 0 → m / d < 0 := fun hn => by
      have : n / d < 0 := Int.ediv_neg_of_neg_of_pos hn (by omega)
      omega
    have hm0 : n < 0 → m < 0 := fun hn => by
      have h3 := hneg hn
      have : m / d * d ≤ (-1) * d := Int.mul_le_mul_of_nonneg_right (by omega) (by omega)
      omega
    have hR : n % d ≤ m % d := by rw [hq] at e; omega
    unfold rd goesUp
    rw [← hq]
    generalize n / d = Q at *
    generalize n % d = R at *
    generalize m % d = R' at *
    have hw : way = 1 ∨ way = 2 ∨ way = 3 ∨ way = 4 ∨ way = 5 ∨ way = 6 := by omega
    rcases hw with rfl | rfl | rfl | rfl | rfl | rfl <;> simp <;> (repeat' split) <;> simp_all <;> omega

/-- The way that is turned round with the sign. -/
def turned (way : Int) : Int := if way = 3 ∨ way = 4 then 7 - way else way

theorem rdP_neg (n d way : Int) (h1 : 1 ≤ way) (h6 : way ≤ 6) (hd : 1 ≤ d) : rdP (-n) d (turned way) = -rdP n d way := by
  have hw : way = 1 ∨ way = 2 ∨ way = 3 ∨ way = 4 ∨ way = 5 ∨ way = 6 := by omega
  obtain ⟨a, b, c⟩ := tdiv_facts n d hd
  unfold rdP
  rw [Int.neg_tmod, Int.neg_tdiv]
  have hs : stepsB (-(n.tdiv d)) (-(n.tmod d)) d (turned way) = stepsB (n.tdiv d) (n.tmod d) d way := by
    have hm : max (-(n.tmod d)) (- -(n.tmod d)) = max (n.tmod d) (-(n.tmod d)) := by omega
    have h2 : (-(n.tdiv d)).tmod 2 = -((n.tdiv d).tmod 2) := Int.neg_tmod _ _
    unfold stepsB turned
    rw [hm, h2]
    generalize max (n.tmod d) (-(n.tmod d)) = M
    generalize (n.tdiv d).tmod 2 = T
    rcases hw with rfl | rfl | rfl | rfl | rfl | rfl <;> simp
  rw [hs]
  by_cases h0 : n.tmod d = 0
  · simp [h0]
  · have : ¬ -(n.tmod d) = 0 := by omega
    have hne : n ≠ 0 := by rintro rfl; simp at h0
    by_cases hs' : stepsB (n.tdiv d) (n.tmod d) d way = false
    · simp [hs']
    · by_cases hn : n < 0
      · have : ¬ -n < 0 := by omega
        simp [h0, hs', hn]; omega
      · have : -n < 0 := by omega
        simp [h0, hs', hn]; omega

theorem rd_neg (n d way : Int) (hd : 1 ≤ d) (h1 : 1 ≤ way) (h6 : way ≤ 6) : rd (-n) d (turned way) = -rd n d way := by
  rw [← rdP_eq _ _ _ hd h1 h6, ← rdP_eq _ _ _ hd (by unfold turned; split <;> omega) (by unfold turned; split <;> omega)]
  exact rdP_neg n d way h1 h6 hd

theorem rd_bound (n d way : Int) (hd : 1 ≤ d) (hn : -1000000000000000000 ≤ n) (hn' : n ≤ 1000000000000000000) : -1000000000000000001 ≤ rd n d way ∧ rd n d way ≤ 1000000000000000001 := by
  obtain ⟨e, f, g⟩ := ediv_facts n d hd
  have hlo : n / d ≤ rd n d way ∧ rd n d way ≤ n / d + 1 := by
    unfold rd; split
    · omega
    · split <;> omega
  have h1 : -1000000000000000000 ≤ n / d := Int.le_ediv_of_mul_le (by omega) (by
    have : (-1000000000000000000) * d ≤ (-1000000000000000000) * 1 := Int.mul_le_mul_of_nonpos_left (by omega) (by omega)
    omega)
  have h2 : n / d ≤ 1000000000000000000 := by
    by_cases h : 0 ≤ n
    · exact Int.le_trans (Int.ediv_le_self d h) hn'
    · have : n / d < 0 := Int.ediv_neg_of_neg_of_pos (by omega) (by omega)
      omega
  omega
end Go.Proofs.YtmchanddfodhaaaDoor
