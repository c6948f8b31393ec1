/-
  Promise C1: how months and halves follow one another; walks of the reference's begins and after.
-/
import Derived.Test.YtoaobblhmnikgaaPAtA
import Derived.Test.YtoaobblhmnikgaaCRefC
import Derived.Deep.RegionHeld3
namespace Go.Proofs.Ytoaobblhmnikgaa
open Go.RowKit

/-- The first day of the month with M months ahead of it. -/
def fm (M : Int) : Int := ys (M / 12).toNat + cumN (2000 + M / 12) (M % 12).toNat
theorem civil_at {M j : Int} (h0 : 0 ≤ M) (h1 : M < 2400) (hj0 : 0 ≤ j) (hj1 : j < md (2000 + M / 12) (M % 12 + 1)) : IsCivil (fm M + j) (M / 12).toNat (M % 12 + 1).toNat (j + 1) := by
  have e1 : (2000 + ((M / 12).toNat : Int)) = 2000 + M / 12 := by omega
  have e2 : (((M % 12 + 1).toNat : Nat) : Int) = M % 12 + 1 := by omega
  refine ⟨by omega, by omega, by omega, by omega, by rw [e1, e2]; omega, ?_⟩
  rw [e1, show (M % 12 + 1).toNat - 1 = (M % 12).toNat from by omega]
  unfold fm
  omega
theorem fm_next {M : Int} (h0 : 0 ≤ M) : fm (M + 1) = fm M + md (2000 + M / 12) (M % 12 + 1) := by
  unfold fm
  by_cases h : M % 12 = 11
  · have e1 : ((M + 1) / 12).toNat = (M / 12).toNat + 1 := by omega
    have e2 : ((M + 1) % 12).toNat = 0 := by omega
    have e3 : (M % 12).toNat = 11 := by omega
    rw [e1, e2, e3, ys, cumN, show (2000 + ((M / 12).toNat : Int)) = 2000 + M / 12 from by omega, ← cumN_12, h]
    show ys (M / 12).toNat + (cumN (2000 + M / 12) 11 + md (2000 + M / 12) (((11 : Nat) : Int) + 1)) + 0 = ys (M / 12).toNat + cumN (2000 + M / 12) 11 + md (2000 + M / 12) (11 + 1)
    rw [show (((11 : Nat) : Int) + 1) = 11 + 1 from rfl]
    omega
  · have e1 : ((M + 1) / 12).toNat = (M / 12).toNat := by omega
    have e2 : ((M + 1) % 12).toNat = (M % 12).toNat + 1 := by omega
    have e3 : (M + 1) / 12 = M / 12 := by omega
    rw [e1, e2, e3, cumN, show (((M % 12).toNat : Nat) : Int) = M % 12 from by omega]
    omega
theorem fm_end : fm 2400 = 73049 := by
  unfold fm
  rw [show ((2400 : Int) / 12).toNat = 200 from rfl, show ((2400 : Int) % 12).toNat = 0 from rfl, ys_200]
  rfl
theorem fm_bd {M : Int} (h0 : 0 ≤ M) (h1 : M ≤ 2400) : 0 ≤ fm M ∧ fm M ≤ 73049 := by
  by_cases h : M = 2400
  · rw [h, fm_end]; omega
  · have := (civil_at (j := 0) h0 (by omega) (by omega) (by have := md_bd (2000 + M / 12) (M % 12 + 1); omega)).day
    omega
theorem fm_low {M : Int} (h0 : 0 ≤ M) (h1 : M < 2400) : fm M + 28 ≤ 73049 := by
  have e := fm_next h0
  have := md_bd (2000 + M / 12) (M % 12 + 1)
  have := (fm_bd (M := M + 1) (by omega) (by omega)).2
  omega
theorem mDay_first {M : Int} (_h0 : 0 ≤ M) : mDay M 1 = fm M := by
  have hm := md_bd (2000 + M / 12) (M % 12 + 1)
  unfold mDay dayN fm
  rw [show min 1 (md (2000 + M / 12) (M % 12 + 1)) = 1 from by omega, show (2000 + M / 12 - 2000) = M / 12 from by omega, show M % 12 + 1 - 1 = M % 12 from by omega]
  omega
theorem mDay_last {M : Int} (h0 : 0 ≤ M) : mDay M 31 = fm (M + 1) - 1 := by
  have hm := md_bd (2000 + M / 12) (M % 12 + 1)
  rw [fm_next h0]
  unfold mDay dayN fm
  rw [show min 31 (md (2000 + M / 12) (M % 12 + 1)) = md (2000 + M / 12) (M % 12 + 1) from by omega, show (2000 + M / 12 - 2000) = M / 12 from by omega, show M % 12 + 1 - 1 = M % 12 from by omega]
/-- Where the period with N periods ahead of it begins, by kind. -/
def stt (K N : Int) : Int := if K = 3 then fm (N / 2) + 15 * (N % 2) else fm N
def lim (K : Int) : Int := if K = 3 then 4800 else 2400
theorem stt3 (N : Int) : stt 3 N = fm (N / 2) + 15 * (N % 2) := if_pos rfl
theorem stt4 (N : Int) : stt 4 N = fm N := if_neg (by omega)
theorem stt_end {K : Int} (hK : K = 3 ∨ K = 4) : stt K (lim K) = 73049 := by
  rcases hK with rfl | rfl
  · rw [stt3, show lim 3 = 4800 from rfl, show (4800 : Int) / 2 = 2400 from rfl, fm_end]; rfl
  · rw [stt4, show lim 4 = 2400 from rfl, fm_end]
theorem stt_bd {K N : Int} (hK : K = 3 ∨ K = 4) (h0 : 0 ≤ N) (h1 : N < lim K) : 0 ≤ stt K N ∧ stt K N ≤ 73048 := by
  rcases hK with rfl | rfl
  · have hl : N < 4800 := h1
    rw [stt3]
    have := fm_low (M := N / 2) (by omega) (by omega)
    have := (fm_bd (M := N / 2) (by omega) (by omega)).1
    omega
  · have hl : N < 2400 := h1
    rw [stt4]
    have := fm_low (M := N) (by omega) (by omega)
    have := (fm_bd (M := N) (by omega) (by omega)).1
    omega
/-- The periods of months and halves, told alike. -/
theorem per_of_stt {K A f t e : Int} {k0 m0 : Nat} {d0 : Int} (hK : K = 3 ∨ K = 4) (hc : IsCivil A k0 m0 d0) {N0 k : Int} (hN : N0 = if K = 3 then (12 * (k0 : Int) + (m0 : Int) - 1) * 2 + hf d0 else 12 * (k0 : Int) + (m0 : Int) - 1) (hk : 0 ≤ k)
    (h : (lim K ≤ N0 + k ∧ f = 0 ∧ t = 0 ∧ e = 3) ∨ (N0 + k < lim K ∧ f = stt K (N0 + k) ∧ t = stt K (N0 + k + 1) - 1 ∧ e = 0)) : PerIs K A k f t e := by
  have hm1 := hc.m1
  have hh := hf_bd d0
  rcases hK with rfl | rfl
  · rw [if_pos rfl] at hN
    right; right
    refine ⟨rfl, k0, m0, d0, hc, ?_⟩
    rw [← hN]
    rw [show lim 3 = 4800 from rfl] at h
    rcases h with ⟨a, b, c, d⟩ | ⟨a, b, c, d⟩
    · exact .inl ⟨a, b, c, d⟩
    · rw [stt3] at b c
      right
      by_cases hp : (N0 + k) % 2 = 0
      · left
        rw [mDay_first (by omega)]
        refine ⟨a, hp, by omega, ?_, d⟩
        rw [c, show (N0 + k + 1) / 2 = (N0 + k) / 2 from by omega]
        omega
      · right
        rw [mDay_first (by omega), mDay_last (by omega)]
        refine ⟨a, by omega, by omega, ?_, d⟩
        rw [c, show (N0 + k + 1) / 2 = (N0 + k) / 2 + 1 from by omega]
        omega
  · rw [if_neg (by omega)] at hN
    right; left
    refine ⟨rfl, k0, m0, d0, hc, ?_⟩
    rw [← hN]
    rw [show lim 4 = 2400 from rfl] at h
    rcases h with ⟨a, b, c, d⟩ | ⟨a, b, c, d⟩
    · exact .inl ⟨a, b, c, d⟩
    · rw [stt4] at b c
      right
      rw [mDay_first (by omega), mDay_last (by omega)]
      exact ⟨a, b, c, d⟩

theorem field_day (y m d : Int) (w : World) : (Instr.field 78 (.agg #[.int .i64 y, .int .i64 m, .int .i64 d]) 2).run Try.prog w = .ok (.int .i64 d) w := by
  kernel_rfl
/-- Does a period begin at the d-th of a month? -/
def begB (K d : Int) : Bool := decide (d = 1) || (decide (K = 3) && decide (d = 16))
set_option maxRecDepth 100000 in
set_option maxHeartbeats 1000000 in
theorem begins_ref (K A L x : Int) (w : World) (hx : dayB x = true) (hK : K = 3 ∨ K = 4) : Calls Try.prog 37 #[.agg #[.int .i64 K, .int .i64 A, .int .i64 L], .int .i64 x] w fun e w' => ∃ (k m : Nat) (d : Int), e = .returned (.bool (begB K d)) ∧ IsCivil x k m d ∧ Below w.heap.size w w' := by
  have HB0 := Lib.hid ((Below.refl w.heap.size w).alloc (Nat.le_refl _) (.cells #[.int .i64 K, .int .i64 A, .int .i64 L] 23))
  go_enter Try.func37, Try.ntmps37
  go_wp2_with fail
  refine (civil_ref x _ hx).mono ?_
  rintro e w1 ⟨k, m, d, rfl, hc, hb1⟩
  have HC := Lib.hid hc
  have HB1 := Lib.hid (HB0.out.trans (hb1.mono HB0.out.size))
  have x0 : w1.cell? ⟨w.heap.size, 0, none⟩ = some (.int .i64 K) := (hb1.cell (p := ⟨w.heap.size, 0, none⟩) (by simp)).trans (by simp)
  clear hb1 hc
  have hfd := field_day (2000 + (k : Int)) (m : Int) d
  have HE : Hid (begB K d = (decide (d = 1) || (decide (K = 3) && decide (d = 16)))) := rfl
  by_cases hd : d = 1
  · subst hd
    go_wp2_with fail
    all_goals go_ret
    all_goals exact ⟨k, m, 1, cret_bool (by rw [HE.out]; simp), HC.out, HB1.out⟩
  · have hdB : decide (d = 1) = false := decide_eq_false hd
    have hdB2 : (d == 1) = false := by simp [hd]
    rcases hK with rfl | rfl
    · go_wp2_with fail
      all_goals go_ret
      all_goals exact ⟨k, m, d, cret_bool (by rw [HE.out]; first | (simp [hd]; done) | (simp [hd]; by_cases e : d = 16 <;> simp [e])), HC.out, HB1.out⟩
    · go_wp2_with fail
      all_goals go_ret
      all_goals exact ⟨k, m, d, cret_bool (by rw [HE.out]; first | (simp [hd]; done) | (simp [hd]; by_cases e : d = 16 <;> simp [e])), HC.out, HB1.out⟩
theorem civil_stt {K N : Int} (hK : K = 3 ∨ K = 4) (h0 : 0 ≤ N) (h1 : N < lim K) : ∃ (k m : Nat) (d : Int), IsCivil (stt K N) k m d ∧ stt K (N + 1) = (if K = 3 ∧ d = 1 then stt K N + 15 else stt K N + md (2000 + k) m - d + 1) := by
  rcases hK with rfl | rfl
  · have hl : N < 4800 := h1
    have hm := md_bd (2000 + N / 2 / 12) (N / 2 % 12 + 1)
    refine ⟨(N / 2 / 12).toNat, (N / 2 % 12 + 1).toNat, 15 * (N % 2) + 1, ?_, ?_⟩
    · rw [stt3]; exact civil_at (M := N / 2) (j := 15 * (N % 2)) (by omega) (by omega) (by omega) (by omega)
    · rw [stt3, stt3, show (2000 + ((N / 2 / 12).toNat : Int)) = 2000 + N / 2 / 12 from by omega, show (((N / 2 % 12 + 1).toNat : Nat) : Int) = N / 2 % 12 + 1 from by omega]
      by_cases hp : N % 2 = 0
      · rw [if_pos ⟨rfl, by omega⟩, show (N + 1) / 2 = N / 2 from by omega]
        omega
      · rw [if_neg (by omega), show (N + 1) / 2 = N / 2 + 1 from by omega, fm_next (by omega)]
        omega
  · have hl : N < 2400 := h1
    have hm := md_bd (2000 + N / 12) (N % 12 + 1)
    refine ⟨(N / 12).toNat, (N % 12 + 1).toNat, 0 + 1, ?_, ?_⟩
    · have := civil_at (M := N) (j := 0) h0 hl (by omega) (by omega)
      rw [Int.add_zero] at this
      rw [stt4]; exact this
    · rw [stt4, stt4, if_neg (by omega), fm_next h0, show (2000 + ((N / 12).toNat : Int)) = 2000 + N / 12 from by omega, show (((N % 12 + 1).toNat : Nat) : Int) = N % 12 + 1 from by omega]
      omega

set_option maxRecDepth 100000 in
set_option maxHeartbeats 1000000 in
theorem after_ref (K A L N : Int) (w : World) (hK : K = 3 ∨ K = 4) (h0 : 0 ≤ N) (h1 : N < lim K) : Calls Try.prog 38 #[.agg #[.int .i64 K, .int .i64 A, .int .i64 L], .int .i64 (stt K N)] w fun e w' => e = .returned (.int .i64 (stt K (N + 1))) ∧ Below w.heap.size w w' := by
  obtain ⟨k, m, d, hc, hn⟩ := civil_stt hK h0 h1
  have hx := stt_bd hK h0 h1
  have HB0 := Lib.hid ((Below.refl w.heap.size w).alloc (Nat.le_refl _) (.cells #[.int .i64 K, .int .i64 A, .int .i64 L] 23))
  have HC := Lib.hid hc
  have HN := Lib.hid hn
  have hk := hc.k1
  have hm1 := hc.m1
  have hm2 := hc.m2
  have hd1 := hc.d1
  have hmd := md_bd (2000 + (k : Int)) m
  have hd2 := hc.d2
  clear hc hn h0 h1
  generalize stt K (N + 1) = y at *
  generalize stt K N = x at *
  have HDX : Hid (dayB x = true) := dayB_iff.2 hx
  go_enter Try.func38, Try.ntmps38
  go_wp2_with fail
  refine (civil_ref x _ HDX.out).mono ?_
  rintro e w1 ⟨k', m', d', rfl, hc', hb1⟩
  obtain ⟨rfl, rfl, rfl⟩ := HC.out.unique hc'
  have HB1 := Lib.hid ((HB0.out.trans (hb1.mono HB0.out.size)).alloc (Nat.le_trans HB0.out.size hb1.size) (.cells #[.int .i64 (2000 + (k : Int)), .int .i64 (m : Int), .int .i64 d] 78))
  have x0 : w1.cell? ⟨w.heap.size, 0, none⟩ = some (.int .i64 K) := (hb1.cell (p := ⟨w.heap.size, 0, none⟩) (by simp)).trans (by simp)
  have hlt : w.heap.size < w1.heap.size := rlt x0
  clear hb1 hc'
  by_cases hcase : K = 3 ∧ d = 1
  · have HY : Hid (y = x + 15) := by have := HN.out; rwa [if_pos hcase] at this
    obtain ⟨rfl, rfl⟩ := hcase
    go_wp2_with fail
    go_ret
    exact ⟨cret_int HY.out.symm, HB1.out⟩
  · have HY : Hid (y = x + md (2000 + (k : Int)) m - d + 1) := by have := HN.out; rwa [if_neg hcase] at this
    have c0 : (w1.alloc (.cells #[.int .i64 (2000 + (k : Int)), .int .i64 (m : Int), .int .i64 d] 78)).cell? ⟨w1.heap.size, 0, none⟩ = some (.int .i64 (2000 + (k : Int))) := by simp
    have c1 : (w1.alloc (.cells #[.int .i64 (2000 + (k : Int)), .int .i64 (m : Int), .int .i64 d] 78)).cell? ⟨w1.heap.size, 1, none⟩ = some (.int .i64 (m : Int)) := by simp
    have c2 : (w1.alloc (.cells #[.int .i64 (2000 + (k : Int)), .int .i64 (m : Int), .int .i64 d] 78)).cell? ⟨w1.heap.size, 2, none⟩ = some (.int .i64 d) := by simp
    have hg : w1.heap.size < (w1.alloc (.cells #[.int .i64 (2000 + (k : Int)), .int .i64 (m : Int), .int .i64 d] 78)).heap.size := by simp
    rcases hK with rfl | rfl
    · have hdB : decide (d = 1) = false := decide_eq_false (fun e => hcase ⟨rfl, e⟩)
      have hdB2 : (d == 1) = false := by simp; exact fun e => hcase ⟨rfl, e⟩
      clear hcase
      go_wp2_with fail
      generalize (w1.alloc (.cells #[.int .i64 (2000 + (k : Int)), .int .i64 (m : Int), .int .i64 d] 78)) = W at *
      generalize w1.heap.size = g at *
      have hw1 : IntKind.i64.wrap (x + md (2000 + (k : Int)) (m : Int)) = x + md (2000 + (k : Int)) (m : Int) := by rw [IntKind.wrap_i64]; omega
      have hw2 : IntKind.i64.wrap (x + md (2000 + (k : Int)) (m : Int) - d) = x + md (2000 + (k : Int)) (m : Int) - d := by rw [IntKind.wrap_i64]; omega
      have hw3 : IntKind.i64.wrap (x + md (2000 + (k : Int)) (m : Int) - d + 1) = x + md (2000 + (k : Int)) (m : Int) - d + 1 := by rw [IntKind.wrap_i64]; omega
      go_region_held3 (fun w' => w'.cell? ⟨g, 0, none⟩ = some (.int .i64 (2000 + (k : Int))) ∧ w'.cell? ⟨g, 1, none⟩ = some (.int .i64 (m : Int)) ∧ w'.cell? ⟨g, 2, none⟩ = some (.int .i64 d)) (go_keep)
        (first
          | (go_at_call 59; refine (monthDays_ref _ _ _ ?_ ?_ ?_).mono ?_; omega; omega; omega; rintro e w5 ⟨rfl, hb5⟩
             have HB5 := Lib.hid (from_drew hb5); clear hb5
             have e0 : w5.cell? ⟨g, 0, none⟩ = some (.int .i64 (2000 + (k : Int))) := (HB5.out.cell (p := ⟨g, 0, none⟩) hg).trans c0
             have e1 : w5.cell? ⟨g, 1, none⟩ = some (.int .i64 (m : Int)) := (HB5.out.cell (p := ⟨g, 1, none⟩) hg).trans c1
             have e2 : w5.cell? ⟨g, 2, none⟩ = some (.int .i64 d) := (HB5.out.cell (p := ⟨g, 2, none⟩) hg).trans c2))
      all_goals go_wp2_with fail
      all_goals go_ret
      all_goals exact ⟨cret_int HY.out.symm, HB1.out.trans (HB5.out.mono HB1.out.size)⟩
    · clear hcase
      go_wp2_with fail
      generalize (w1.alloc (.cells #[.int .i64 (2000 + (k : Int)), .int .i64 (m : Int), .int .i64 d] 78)) = W at *
      generalize w1.heap.size = g at *
      have hw1 : IntKind.i64.wrap (x + md (2000 + (k : Int)) (m : Int)) = x + md (2000 + (k : Int)) (m : Int) := by rw [IntKind.wrap_i64]; omega
      have hw2 : IntKind.i64.wrap (x + md (2000 + (k : Int)) (m : Int) - d) = x + md (2000 + (k : Int)) (m : Int) - d := by rw [IntKind.wrap_i64]; omega
      have hw3 : IntKind.i64.wrap (x + md (2000 + (k : Int)) (m : Int) - d + 1) = x + md (2000 + (k : Int)) (m : Int) - d + 1 := by rw [IntKind.wrap_i64]; omega
      go_region_held3 (fun w' => w'.cell? ⟨g, 0, none⟩ = some (.int .i64 (2000 + (k : Int))) ∧ w'.cell? ⟨g, 1, none⟩ = some (.int .i64 (m : Int)) ∧ w'.cell? ⟨g, 2, none⟩ = some (.int .i64 d)) (go_keep)
        (first
          | (go_at_call 59; refine (monthDays_ref _ _ _ ?_ ?_ ?_).mono ?_; omega; omega; omega; rintro e w5 ⟨rfl, hb5⟩
             have HB5 := Lib.hid (from_drew hb5); clear hb5
             have e0 : w5.cell? ⟨g, 0, none⟩ = some (.int .i64 (2000 + (k : Int))) := (HB5.out.cell (p := ⟨g, 0, none⟩) hg).trans c0
             have e1 : w5.cell? ⟨g, 1, none⟩ = some (.int .i64 (m : Int)) := (HB5.out.cell (p := ⟨g, 1, none⟩) hg).trans c1
             have e2 : w5.cell? ⟨g, 2, none⟩ = some (.int .i64 d) := (HB5.out.cell (p := ⟨g, 2, none⟩) hg).trans c2))
      all_goals go_wp2_with fail
      all_goals go_ret
      all_goals exact ⟨cret_int HY.out.symm, HB1.out.trans (HB5.out.mono HB1.out.size)⟩
end Go.Proofs.Ytoaobblhmnikgaa
