/-
  Promise B1: which date a day is; walks of isDay, Weekday and Civil: at every int they return the date and the weekday, or the error.
-/
import Derived.Test.YtlaamfagjpdhgaaCStarts
namespace Go.Proofs.Ytlaamfagjpdhgaa
open Go.RowKit

/-- The days of a year's first m months. -/
def cumN (y : Int) : Nat → Int
  | 0 => 0
  | m + 1 => cumN y m + md y ((m : Int) + 1)
theorem md_bd (y m : Int) : 28 ≤ md y m ∧ md y m ≤ 31 := by
  unfold md; (repeat' split) <;> omega
theorem cumN_12 (y : Int) : cumN y 12 = yd y := by
  simp only [cumN]
  unfold md yd
  cases lp y <;> simp
theorem cumN_bd (y : Int) : ∀ m : Nat, 28 * m ≤ cumN y m ∧ cumN y m ≤ 31 * m
  | 0 => by simp [cumN]
  | m + 1 => by
    have := cumN_bd y m
    have := md_bd y ((m : Int) + 1)
    simp only [cumN]
    omega
theorem ys_mono {a b : Nat} (h : a ≤ b) : ys a ≤ ys b := by
  induction b with
  | zero => have : a = 0 := by omega
            subst this; exact Int.le_refl _
  | succ b ih =>
    by_cases e : a = b + 1
    · subst e; exact Int.le_refl _
    · have := ih (by omega)
      rw [ys]
      have : 365 ≤ yd (2000 + (b : Int)) := by unfold yd; split <;> omega
      omega
theorem cumN_mono (y : Int) {a b : Nat} (h : a ≤ b) : cumN y a ≤ cumN y b := by
  induction b with
  | zero => have : a = 0 := by omega
            subst this; exact Int.le_refl _
  | succ b ih =>
    by_cases e : a = b + 1
    · subst e; exact Int.le_refl _
    · have := ih (by omega)
      have := md_bd y ((b : Int) + 1)
      rw [cumN]
      omega

/-- Day 'day' is the d-th of the month m (from 1 on) of the year 2000 + k. -/
structure IsCivil (day : Int) (k m : Nat) (d : Int) : Prop where
  k1 : k < 200
  m1 : 1 ≤ m
  m2 : m ≤ 12
  d1 : 1 ≤ d
  d2 : d ≤ md (2000 + k) m
  eq : day = ys k + cumN (2000 + k) (m - 1) + d - 1
theorem IsCivil.month {day : Int} {k m : Nat} {d : Int} (h : IsCivil day k m d) : cumN (2000 + k) (m - 1) + d ≤ cumN (2000 + k) m ∧ cumN (2000 + k) m ≤ yd (2000 + k) := by
  obtain ⟨h1, h2, h3, h4, h5, h6⟩ := h
  have e : cumN (2000 + (k : Int)) m = cumN (2000 + k) (m - 1) + md (2000 + k) m := by
    have : m = (m - 1) + 1 := by omega
    rw [this, cumN, Nat.add_sub_cancel]
    congr 2
  have := cumN_mono (2000 + (k : Int)) h3
  rw [cumN_12] at this
  omega
theorem IsCivil.in {day : Int} {k m : Nat} {d : Int} (h : IsCivil day k m d) : ys k ≤ day ∧ day < ys (k + 1) := by
  have hm := h.month
  have := cumN_bd (2000 + (k : Int)) (m - 1)
  have e : ys (k + 1) = ys k + yd (2000 + k) := rfl
  have := h.eq
  have := h.d1
  omega
theorem IsCivil.unique {day : Int} {k m k' m' : Nat} {d d' : Int} (h : IsCivil day k m d) (h' : IsCivil day k' m' d') : k = k' ∧ m = m' ∧ d = d' := by
  have a := h.in
  have b := h'.in
  have hk : k = k' := by
    rcases Nat.lt_trichotomy k k' with hlt | he | hgt
    · have := ys_mono (show k + 1 ≤ k' by omega); omega
    · exact he
    · have := ys_mono (show k' + 1 ≤ k by omega); omega
  subst hk
  have c := h.month
  have c' := h'.month
  have e := h.eq
  have e' := h'.eq
  have q := h.d1
  have q' := h'.d1
  have hm1 := h.m1
  have hm1' := h'.m1
  have hm : m = m' := by
    rcases Nat.lt_trichotomy m m' with hlt | he | hgt
    · have := cumN_mono (2000 + (k : Int)) (show m ≤ m' - 1 by omega); omega
    · exact he
    · have := cumN_mono (2000 + (k : Int)) (show m' ≤ m - 1 by omega); omega
  subst hm
  exact ⟨rfl, rfl, by omega⟩
theorem IsCivil.day {day : Int} {k m : Nat} {d : Int} (h : IsCivil day k m d) : 0 ≤ day ∧ day ≤ 73048 := by
  have a := h.in
  have := ys_bd (k := k) (by have := h.k1; omega)
  have := ys_mono (show k + 1 ≤ 200 by have := h.k1; omega)
  have e : ys 200 = 73049 := by rw [ys_closed 200 (by omega)]; decide
  omega

def dayB (n : Int) : Bool := decide (0 ≤ n ∧ n ≤ 73048)
theorem isDay_any (n : Int) (w : World) : Calls Try.prog 38 #[.int .i64 n] w fun e w' => e = .returned (.bool (dayB n)) ∧ w' = w := by
  by_cases h1 : 0 ≤ n
  · by_cases h2 : n ≤ 73048
    · have H : Hid (dayB n = true) := decide_eq_true ⟨h1, h2⟩
      go_enter Try.func38, Try.ntmps38
      go_wp2
      go_ret
      exact ⟨cret_bool (by rw [H.out]; try (simp <;> omega)), rfl⟩
    · have H : Hid (dayB n = false) := decide_eq_false (by omega)
      go_enter Try.func38, Try.ntmps38
      go_wp2
      go_ret
      exact ⟨cret_bool (by rw [H.out]; try (simp <;> omega)), rfl⟩
  · have H : Hid (dayB n = false) := decide_eq_false (by omega)
    have hd : decide (0 ≤ n) = false := decide_eq_false h1
    go_enter Try.func38, Try.ntmps38
    go_wp2
    go_ret
    exact ⟨cret_bool (by rw [H.out]), rfl⟩

/-- The weekday of a day. -/
def wkd (n : Int) : Int := (n + 5) % 7
theorem weekday_any (n : Int) (w : World) (h0 : 0 ≤ n) (h1 : n ≤ 1000000) : Calls Try.prog 89 #[.int .i64 n] w fun e w' => e = .returned (.int .i64 (wkd n)) ∧ w' = w := by
  go_enter Try.func89, Try.ntmps89
  go_wp2
  go_ret
  exact ⟨rfl, rfl⟩
theorem Civil_bad (n : Int) (w : World) (h : dayB n = false) : Calls Try.prog 72 #[.int .i64 n] w fun e w' => e = .returned (.tuple #[.agg #[.int .i64 0, .int .i64 0, .int .i64 0], .int .i64 3]) ∧ Below w.heap.size w w' := by
  go_enter Try.func72, Try.ntmps72
  go_wp2_with (go_at_call 38; refine (isDay_any _ _).mono ?_; rintro e w' ⟨rfl, rfl⟩)
  refine bodyPost_ret (v := .tuple #[.agg #[.int .i64 _, .int .i64 _, .int .i64 _], .int .i64 _]) (by simp [results, Try.results72, go_sem] <;> rfl) rfl ⟨rfl, ?_⟩
  exact (Below.refl _ _).alloc (Nat.le_refl _) _

theorem ysL_at {k : Nat} (h : k ≤ 200) : (arr ysL)[k]? = some (.int .i64 (ys k)) := by
  rw [arr_get _ (by rw [ysL_length]; omega)]
  congr 2
  unfold ysL
  exact nth_range ys 201 k (by omega)
theorem ysL_info : (Try.prog.info? 105).map (·.size) = some (arr ysL).size := by rw [arr_size, ysL_length]; kernel_rfl
theorem ysL_one : (arr ysL).all (·.oneCell') = true := by
  rw [Array.all_eq_true']
  intro x hx
  simp [arr] at hx
  obtain ⟨a, _, rfl⟩ := hx
  rfl
theorem zero_size : Try.zeroCells105.size = (arr ysL).size := by rw [zero_cells, arr_size, arr_size, ysL_length, List.length_replicate]

theorem civil_start {n : Int} (h0 : 0 ≤ n) (h1 : n ≤ 73048) : (n / 366).toNat < 200 ∧ ys (n / 366).toNat ≤ n := by
  have hk : (n / 366).toNat ≤ 199 := by omega
  refine ⟨by omega, ?_⟩
  rw [ys_closed _ (by omega)]
  split <;> omega
theorem ys_200 : ys 200 = 73049 := by rw [ys_closed 200 (by omega)]; decide

/-- Behind 'starts := yearStarts()': a new row holds the beginnings. -/
theorem starts_world {w w1 : World} {B : Nat} (hb : Below B w w1) (hB : B ≤ w1.heap.size) :
    ((w1.alloc (.cells Try.zeroCells105 105)).setRow w1.heap.size (arr ysL)).heap[w1.heap.size]? = some (.cells (arr ysL) 105 (0, 0)) ∧ Below B w ((w1.alloc (.cells Try.zeroCells105 105)).setRow w1.heap.size (arr ysL)) :=
  ⟨setRow_heap _ _ _ _ _ _ (heap_alloc_new w1 _), below_row (hb.alloc hB _) hB _⟩

set_option maxRecDepth 100000 in
set_option maxHeartbeats 2000000 in
theorem Civil_ok (n : Int) (w : World) (h : dayB n = true) : Calls Try.prog 72 #[.int .i64 n] w fun e w' => ∃ (k m : Nat) (d : Int), e = .returned (.tuple #[.agg #[.int .i64 (2000 + k), .int .i64 m, .int .i64 d], .int .i64 0]) ∧ IsCivil n k m d ∧ Below w.heap.size w w' := by
  obtain ⟨h0, h1⟩ : 0 ≤ n ∧ n ≤ 73048 := of_decide_eq_true h
  have hst := civil_start h0 h1
  have HY := Lib.hid (fun k (h : k ≤ 200) => ysL_at h)
  have hin := ysL_info
  have hone := ysL_one
  have hz := zero_size
  go_enter Try.func72, Try.ntmps72
  go_wp2_with (go_at_call 38; refine (isDay_any _ _).mono ?_; rintro e w' ⟨rfl, rfl⟩)
  refine (yearStarts_any _).mono ?_
  rintro e w1 ⟨rfl, hb1⟩
  have hsz : w.heap.size < w1.heap.size := by have := hb1.size; simp at this; omega
  have HW2 := Lib.hid (starts_world hb1 (by have := hb1.size; simpa using this))
  have HR : Hid (∀ j, j < 3 → (((w1.alloc (.cells Try.zeroCells105 105)).setRow w1.heap.size (arr ysL)).cell? ⟨w.heap.size, j, none⟩ = some (.int .i64 0) ∧ ((w1.alloc (.cells Try.zeroCells105 105)).setRow w1.heap.size (arr ysL)).frozen? ⟨w.heap.size, j, none⟩ = false)) := fun j hj => by
    have hB := HW2.out.2
    rw [hB.cell (p := ⟨w.heap.size, j, none⟩) (by simp), hB.frozen (p := ⟨w.heap.size, j, none⟩) (by simp)]
    match j, hj with
    | 0, _ => simp
    | 1, _ => simp
    | 2, _ => simp
  clear hb1
  generalize arr ysL = ya at *
  go_wp2_with (refine wpList_store_row rfl 105 (.tmp 4) (.tmp 13) rfl w1.heap.size ya rfl rfl 105 _ (heap_alloc_new w1 _) hin hz hone ?_; refine Hid.out ?_)
  generalize hW : (w1.alloc (.cells Try.zeroCells105 105)).setRow w1.heap.size ya = W at *
  have HROW : Hid (∀ k, k ≤ 200 → W.cell? ⟨w1.heap.size, k, none⟩ = some (.int .i64 (ys k))) := fun k hk => by
    rw [cell_of_row W _ _ _ _ _ HW2.out.1]; exact HY.out k hk
  have HBW : Hid (Below w.heap.size w W) := ((Below.refl _ _).alloc (Nat.le_refl _) _).trans (HW2.out.2.mono (by simp))
  clear HW2 hW
  generalize w1.heap.size = g at *
  clear hin hz hone
  refine Lib.hid ?_
  go_wp2_with fail
  go_loop [5] (fun i => ∃ k : Nat, k < 200 ∧ i = .int .i64 k ∧ ys k ≤ n) (fun i => 200 - (intOf i).toNat)
  case atStart => exact ⟨(n / 366).toNat, hst.1, by rw [Int.toNat_of_nonneg (by omega)], hst.2⟩
  case round =>
    clear hst
    obtain ⟨k, hk, rfl, hyk⟩ := hrel
    have b1 := ys_bd (k := k) (by omega)
    have b2 := ys_bd (k := k + 1) (by omega)
    have c1 := HROW.out (k + 1) (by omega)
    have c0 := HROW.out k (by omega)
    have hi1 : (k : Int) + 1 < 201 := by omega
    have hi0 : (k : Int) < 201 := by omega
    by_cases hle : ys (k + 1) ≤ n
    · have hk2 : k + 1 < 200 := by
        by_cases e : k + 1 < 200
        · exact e
        · have : k + 1 = 200 := by omega
          rw [this, ys_200] at hle
          omega
      go_wp2
      go_round
      case rel => exact ⟨k + 1, hk2, by go_num, hle⟩
      case measure => simp [intOf]; omega
    · have hlt : n < ys (k + 1) := by omega
      have HLT := Lib.hid hlt
      obtain ⟨b10, b11⟩ := b1
      have hleB : decide (ys (k + 1) ≤ n) = false := decide_eq_false hle
      have HE : Hid (n - ys k < cumN (2000 + k) 12) := by
        unfold Hid; rw [cumN_12]; have := HLT.out; rw [ys] at this; omega
      clear b2 hlt hle
      go_wp2
      go_quiet (fail)
      go_wp2_with fail
      go_loop [7, 8] (fun mo re => ∃ m : Nat, m < 12 ∧ mo = .int .i64 (m + 1 : Nat) ∧ re = .int .i64 (n - ys k - cumN (2000 + k) m) ∧ 0 ≤ n - ys k - cumN (2000 + k) m) (fun mo _ => 12 - (intOf mo).toNat)
      case atStart => exact ⟨0, by omega, rfl, by simp [cumN], by simp [cumN]; omega⟩
      case round =>
        obtain ⟨m, hm, rfl, rfl, hr0⟩ := hrel
        have cb := cumN_bd (2000 + (k : Int)) m
        have mb := md_bd (2000 + (k : Int)) ((m : Int) + 1)
        have ES : Hid (cumN (2000 + (k : Int)) (m + 1) = cumN (2000 + (k : Int)) m + md (2000 + (k : Int)) ((m : Int) + 1)) := rfl
        rw [show ((m + 1 : Nat) : Int) = (m : Int) + 1 from by omega]
        by_cases hge : md (2000 + (k : Int)) ((m : Int) + 1) ≤ n - ys k - cumN (2000 + (k : Int)) m
        · have hm2 : m + 1 < 12 := by
            by_cases e : m + 1 < 12
            · exact e
            · have : m = 11 := by omega
              subst this
              have h1 := HE.out
              have h2 := ES.out
              rw [h2] at h1
              omega
          go_wp2_with (go_at_call 85; refine (monthDays_any _ _ _ (by omega)).mono ?_; rintro e w' ⟨rfl, rfl⟩)
          go_round
          case rel => exact ⟨m + 1, hm2, by go_num, by rw [ES.out]; go_num, by rw [ES.out]; omega⟩
          case measure => simp [intOf]; omega
        · have hgeB : decide (md (2000 + (k : Int)) ((m : Int) + 1) ≤ n - ys k - cumN (2000 + (k : Int)) m) = false := decide_eq_false hge
          have r0 := HR.out 0 (by omega)
          have r1 := HR.out 1 (by omega)
          have r2 := HR.out 2 (by omega)
          obtain ⟨r00, r01⟩ := r0
          obtain ⟨r10, r11⟩ := r1
          obtain ⟨r20, r21⟩ := r2
          have HC : Hid (IsCivil n k (m + 1) (n - ys k - cumN (2000 + (k : Int)) m + 1)) := ⟨hk, by omega, by omega, by omega, by rw [show ((m + 1 : Nat) : Int) = (m : Int) + 1 from by omega]; omega, by rw [Nat.add_sub_cancel]; omega⟩
          go_wp2_with (go_at_call 85; refine (monthDays_any _ _ _ (by omega)).mono ?_; rintro e w' ⟨rfl, rfl⟩)
          refine bodyPost_ret (v := .tuple #[.agg #[.int .i64 (2000 + k), .int .i64 ((m : Int) + 1), .int .i64 (n - ys k - cumN (2000 + (k : Int)) m + 1)], .int .i64 0]) (by simp [results, Try.results72, go_sem, r00, r10, r20] <;> rfl) rfl ⟨k, m + 1, _, rfl, HC.out, ?_⟩
          exact ((((below_dN HBW.out _).setCell (p := ⟨w.heap.size, 0, none⟩) (Nat.le_refl _) _).setCell (p := ⟨w.heap.size, 1, none⟩) (Nat.le_refl _) _).setCell (p := ⟨w.heap.size, 2, none⟩) (Nat.le_refl _) _)
end Go.Proofs.Ytlaamfagjpdhgaa
