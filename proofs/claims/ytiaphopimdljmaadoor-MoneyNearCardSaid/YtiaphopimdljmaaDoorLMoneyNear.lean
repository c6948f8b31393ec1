/-
  The walk of the law MoneyNear: it answers true at every four ints, in every world that holds the library's table.
-/
import Derived.Test.YtiaphopimdljmaaDoorMBegun
import Derived.OpenShut
namespace Go.Proofs.YtiaphopimdljmaaDoor
open Go.RowKit

/-- Which of n things a raw number speaks of. -/
def chooseI (c n : Int) : Int := (if c < 0 then -(c + 1) else c) % n
theorem choose_any (c n : Int) (w : World) (hc : -9223372036854775808 ≤ c) (hc' : c ≤ 9223372036854775807) (hn : 1 ≤ n) (hn' : n ≤ 1000000000) :
    Calls Tryd.prog 26 #[.int .i64 c, .int .i64 n] w fun e w' => e = .returned (.int .i64 (chooseI c n)) ∧ w' = w := by
  have hn0 : (n == 0) = false := by simp; omega
  by_cases h : c < 0
  · have H : Hid (chooseI c n = (-(c + 1)) % n) := by unfold Hid chooseI; rw [if_pos h]
    have HE : Hid (-((c + 1).tmod n) = (-(c + 1)) % n) := by unfold Hid; rw [← Int.neg_tmod]; exact Int.tmod_eq_emod_of_nonneg (by omega)
    go_enter Tryd.func26, Tryd.ntmps26
    go_wp2
    go_ret
    exact ⟨ret_int (by rw [H.out]; first | done | rw [HE.out]), rfl⟩
  · have H : Hid (chooseI c n = c % n) := by unfold Hid chooseI; rw [if_neg h]
    have HE : Hid (c.tmod n = c % n) := Int.tmod_eq_emod_of_nonneg (by omega)
    go_enter Tryd.func26, Tryd.ntmps26
    go_wp2
    go_ret
    exact ⟨ret_int (by rw [H.out]; first | done | rw [HE.out]), rfl⟩
theorem choose_bd (c n : Int) (hn : 1 ≤ n) : 0 ≤ chooseI c n ∧ chooseI c n < n :=
  ⟨Int.emod_nonneg _ (by omega), Int.emod_lt_of_pos _ (by omega)⟩

theorem rvE_ok {n d way : Int} (h : rvE n d way = 0) : (1 ≤ way ∧ way ≤ 6) ∧ (1 ≤ d ∧ d ≤ 1000000 ∧ -1000000000000000000 ≤ n ∧ n ≤ 1000000000000000000) ∧ rvN n d way = rd n d way := by
  unfold rvE at h
  cases hw : wayB way
  · simp [hw] at h
  · cases hr : rngB n d
    · simp [hw, hr] at h
    · exact ⟨of_decide_eq_true hw, of_decide_eq_true hr, (rv_ok hw hr).1⟩
theorem rv_turned {n d way : Int} (h : rvE n d way = 0) : rvE (-n) d (turned way) = 0 ∧ rvN (-n) d (turned way) = -rvN n d way := by
  obtain ⟨hw, hr, e⟩ := rvE_ok h
  have h1 : wayB (turned way) = true := decide_eq_true (by unfold turned; split <;> omega)
  have h2 : rngB (-n) d = true := decide_eq_true (by omega)
  refine ⟨(rv_ok h1 h2).2, ?_⟩
  rw [(rv_ok h1 h2).1, e]
  exact rd_neg n d way hr.1 hw.1 hw.2
theorem rv_more {n m d way : Int} (h : rvE n d way = 0) (hm : n ≤ m) (h' : rvE m d way = 0) : rvN n d way ≤ rvN m d way := by
  obtain ⟨hw, hr, e⟩ := rvE_ok h
  obtain ⟨_, _, e'⟩ := rvE_ok h'
  rw [e, e']
  exact rd_mono n m d way hr.1 hw.1 hw.2 hm
theorem turned_3 : turned 3 = 4 := rfl
theorem turned_4 : turned 4 = 3 := rfl

set_option maxHeartbeats 2000000 in
theorem near_plain (n more d way A E2 B : Int) (w : World) (ht : Tab w) (bm : -9223372036854775808 ≤ more ∧ more ≤ 9223372036854775807)
    (hn : -1000000000000000000 ≤ n) (hn' : n ≤ 1000000000000000000) (hd : 1 ≤ d) (hd' : d ≤ 1000000) (h3 : (way == 3) = false) (h4 : (way == 4) = false) (hw : 1 ≤ way) (hw' : way ≤ 6)
    (hA1 : -1000000000000000001 ≤ A) (hA2 : A ≤ 1000000000000000001) (a1 : -d < A * d - n) (a2 : A * d - n < d) (a3 : 5 ≤ way → -d ≤ 2 * (A * d - n)) (a4 : 5 ≤ way → 2 * (A * d - n) ≤ d)
    (hr : ∀ w, Calls Tryd.prog 11 #[.int .i64 n, .int .i64 d, .int .i64 way] w fun e w' => e = .returned (.tuple #[.int .i64 A, .int .i64 0]) ∧ ∃ k, w' = w.drewN k)
    (hm : ∀ w, Calls Tryd.prog 11 #[.int .i64 (n + chooseI more 1000), .int .i64 d, .int .i64 way] w fun e w' => e = .returned (.tuple #[.int .i64 B, .int .i64 E2]) ∧ ∃ k, w' = w.drewN k)
    (hB : E2 = 0 → A ≤ B)
    (hg : ∀ w, Calls Tryd.prog 11 #[.int .i64 (-n), .int .i64 d, .int .i64 way] w fun e w' => e = .returned (.tuple #[.int .i64 (-A), .int .i64 0]) ∧ ∃ k, w' = w.drewN k) :
    Calls Tryd.prog 8 #[.int .i64 n, .int .i64 more, .int .i64 d, .int .i64 way] w fun e w' => e = .returned (.bool true) ∧ Below w.heap.size w w' := by
  have HT : Hid (Tab w) := ht
  have HR : Hid (∀ w, Calls Tryd.prog 11 #[.int .i64 n, .int .i64 d, .int .i64 way] w fun e w' => e = .returned (.tuple #[.int .i64 A, .int .i64 0]) ∧ ∃ k, w' = w.drewN k) := hr
  have HM : Hid (∀ w, Calls Tryd.prog 11 #[.int .i64 (n + chooseI more 1000), .int .i64 d, .int .i64 way] w fun e w' => e = .returned (.tuple #[.int .i64 B, .int .i64 E2]) ∧ ∃ k, w' = w.drewN k) := hm
  have HN : Hid (∀ w, Calls Tryd.prog 11 #[.int .i64 (-n), .int .i64 d, .int .i64 way] w fun e w' => e = .returned (.tuple #[.int .i64 (-A), .int .i64 0]) ∧ ∃ k, w' = w.drewN k) := hg
  have HBB : Hid (E2 = 0 → A ≤ B) := hB
  have hc := choose_bd more 1000 (by omega)
  obtain ⟨hc0, hc1⟩ := hc
  clear ht hr hm hg hB
  by_cases h5 : 5 ≤ way
  · have a3' := a3 h5
    have a4' := a4 h5
    clear a3 a4
    by_cases e2 : E2 = 0
    · subst e2
      have hB := HBB.out rfl
      go_enter Tryd.func8, Tryd.ntmps8
      go_wp2_with fail
      refine (begun _ HT.out).mono ?_
      rintro e w1 ⟨rfl, hb⟩
      have HB : Hid (Below w.heap.size w w1) := hb
      clear hb
      go_wp2_with fail
      refine (HR.out w1).mono ?_
      rintro e w2 ⟨rfl, k1, rfl⟩
      go_wp2_with fail
      refine (choose_any more 1000 _ bm.1 bm.2 (by omega) (by omega)).mono ?_
      rintro e w3 ⟨rfl, rfl⟩
      go_wp2_with fail
      refine (HM.out _).mono ?_
      rintro e w4 ⟨rfl, k2, rfl⟩
      go_wp2_with fail
      refine (HN.out _).mono ?_
      rintro e w5 ⟨rfl, k3, rfl⟩
      go_wp2_with fail
      go_ret
      exact ⟨rfl, HB.out.trans ((below_drewN w1 _).mono HB.out.size)⟩
    · have e2' : (E2 == 0) = false := by simp [e2]
      clear e2
      go_enter Tryd.func8, Tryd.ntmps8
      go_wp2_with fail
      refine (begun _ HT.out).mono ?_
      rintro e w1 ⟨rfl, hb⟩
      have HB : Hid (Below w.heap.size w w1) := hb
      clear hb
      go_wp2_with fail
      refine (HR.out w1).mono ?_
      rintro e w2 ⟨rfl, k1, rfl⟩
      go_wp2_with fail
      refine (choose_any more 1000 _ bm.1 bm.2 (by omega) (by omega)).mono ?_
      rintro e w3 ⟨rfl, rfl⟩
      go_wp2_with fail
      refine (HM.out _).mono ?_
      rintro e w4 ⟨rfl, k2, rfl⟩
      go_wp2_with fail
      refine (HN.out _).mono ?_
      rintro e w5 ⟨rfl, k3, rfl⟩
      go_wp2_with fail
      go_ret
      exact ⟨rfl, HB.out.trans ((below_drewN w1 _).mono HB.out.size)⟩
  · clear a3 a4
    by_cases e2 : E2 = 0
    · subst e2
      have hB := HBB.out rfl
      go_enter Tryd.func8, Tryd.ntmps8
      go_wp2_with fail
      refine (begun _ HT.out).mono ?_
      rintro e w1 ⟨rfl, hb⟩
      have HB : Hid (Below w.heap.size w w1) := hb
      clear hb
      go_wp2_with fail
      refine (HR.out w1).mono ?_
      rintro e w2 ⟨rfl, k1, rfl⟩
      go_wp2_with fail
      refine (choose_any more 1000 _ bm.1 bm.2 (by omega) (by omega)).mono ?_
      rintro e w3 ⟨rfl, rfl⟩
      go_wp2_with fail
      refine (HM.out _).mono ?_
      rintro e w4 ⟨rfl, k2, rfl⟩
      go_wp2_with fail
      refine (HN.out _).mono ?_
      rintro e w5 ⟨rfl, k3, rfl⟩
      go_wp2_with fail
      go_ret
      exact ⟨rfl, HB.out.trans ((below_drewN w1 _).mono HB.out.size)⟩
    · have e2' : (E2 == 0) = false := by simp [e2]
      clear e2
      go_enter Tryd.func8, Tryd.ntmps8
      go_wp2_with fail
      refine (begun _ HT.out).mono ?_
      rintro e w1 ⟨rfl, hb⟩
      have HB : Hid (Below w.heap.size w w1) := hb
      clear hb
      go_wp2_with fail
      refine (HR.out w1).mono ?_
      rintro e w2 ⟨rfl, k1, rfl⟩
      go_wp2_with fail
      refine (choose_any more 1000 _ bm.1 bm.2 (by omega) (by omega)).mono ?_
      rintro e w3 ⟨rfl, rfl⟩
      go_wp2_with fail
      refine (HM.out _).mono ?_
      rintro e w4 ⟨rfl, k2, rfl⟩
      go_wp2_with fail
      refine (HN.out _).mono ?_
      rintro e w5 ⟨rfl, k3, rfl⟩
      go_wp2_with fail
      go_ret
      exact ⟨rfl, HB.out.trans ((below_drewN w1 _).mono HB.out.size)⟩
set_option maxHeartbeats 2000000 in
theorem near_3 (n more d way A E2 B : Int) (w : World) (ht : Tab w) (bm : -9223372036854775808 ≤ more ∧ more ≤ 9223372036854775807)
    (hn : -1000000000000000000 ≤ n) (hn' : n ≤ 1000000000000000000) (hd : 1 ≤ d) (hd' : d ≤ 1000000) (h3 : (way == 3) = true) (hw : 1 ≤ way) (hw' : way ≤ 6)
    (hA1 : -1000000000000000001 ≤ A) (hA2 : A ≤ 1000000000000000001) (a1 : -d < A * d - n) (a2 : A * d - n < d) (a3 : 5 ≤ way → -d ≤ 2 * (A * d - n)) (a4 : 5 ≤ way → 2 * (A * d - n) ≤ d)
    (hr : ∀ w, Calls Tryd.prog 11 #[.int .i64 n, .int .i64 d, .int .i64 way] w fun e w' => e = .returned (.tuple #[.int .i64 A, .int .i64 0]) ∧ ∃ k, w' = w.drewN k)
    (hm : ∀ w, Calls Tryd.prog 11 #[.int .i64 (n + chooseI more 1000), .int .i64 d, .int .i64 way] w fun e w' => e = .returned (.tuple #[.int .i64 B, .int .i64 E2]) ∧ ∃ k, w' = w.drewN k)
    (hB : E2 = 0 → A ≤ B)
    (hg : ∀ w, Calls Tryd.prog 11 #[.int .i64 (-n), .int .i64 d, .int .i64 (7 - way)] w fun e w' => e = .returned (.tuple #[.int .i64 (-A), .int .i64 0]) ∧ ∃ k, w' = w.drewN k) :
    Calls Tryd.prog 8 #[.int .i64 n, .int .i64 more, .int .i64 d, .int .i64 way] w fun e w' => e = .returned (.bool true) ∧ Below w.heap.size w w' := by
  have HT : Hid (Tab w) := ht
  have HR : Hid (∀ w, Calls Tryd.prog 11 #[.int .i64 n, .int .i64 d, .int .i64 way] w fun e w' => e = .returned (.tuple #[.int .i64 A, .int .i64 0]) ∧ ∃ k, w' = w.drewN k) := hr
  have HM : Hid (∀ w, Calls Tryd.prog 11 #[.int .i64 (n + chooseI more 1000), .int .i64 d, .int .i64 way] w fun e w' => e = .returned (.tuple #[.int .i64 B, .int .i64 E2]) ∧ ∃ k, w' = w.drewN k) := hm
  have HN : Hid (∀ w, Calls Tryd.prog 11 #[.int .i64 (-n), .int .i64 d, .int .i64 (7 - way)] w fun e w' => e = .returned (.tuple #[.int .i64 (-A), .int .i64 0]) ∧ ∃ k, w' = w.drewN k) := hg
  have HBB : Hid (E2 = 0 → A ≤ B) := hB
  have hc := choose_bd more 1000 (by omega)
  obtain ⟨hc0, hc1⟩ := hc
  clear ht hr hm hg hB
  by_cases h5 : 5 ≤ way
  · have a3' := a3 h5
    have a4' := a4 h5
    clear a3 a4
    by_cases e2 : E2 = 0
    · subst e2
      have hB := HBB.out rfl
      go_enter Tryd.func8, Tryd.ntmps8
      go_wp2_with fail
      refine (begun _ HT.out).mono ?_
      rintro e w1 ⟨rfl, hb⟩
      have HB : Hid (Below w.heap.size w w1) := hb
      clear hb
      go_wp2_with fail
      refine (HR.out w1).mono ?_
      rintro e w2 ⟨rfl, k1, rfl⟩
      go_wp2_with fail
      refine (choose_any more 1000 _ bm.1 bm.2 (by omega) (by omega)).mono ?_
      rintro e w3 ⟨rfl, rfl⟩
      go_wp2_with fail
      refine (HM.out _).mono ?_
      rintro e w4 ⟨rfl, k2, rfl⟩
      go_wp2_with fail
      refine (HN.out _).mono ?_
      rintro e w5 ⟨rfl, k3, rfl⟩
      go_wp2_with fail
      go_ret
      exact ⟨rfl, HB.out.trans ((below_drewN w1 _).mono HB.out.size)⟩
    · have e2' : (E2 == 0) = false := by simp [e2]
      clear e2
      go_enter Tryd.func8, Tryd.ntmps8
      go_wp2_with fail
      refine (begun _ HT.out).mono ?_
      rintro e w1 ⟨rfl, hb⟩
      have HB : Hid (Below w.heap.size w w1) := hb
      clear hb
      go_wp2_with fail
      refine (HR.out w1).mono ?_
      rintro e w2 ⟨rfl, k1, rfl⟩
      go_wp2_with fail
      refine (choose_any more 1000 _ bm.1 bm.2 (by omega) (by omega)).mono ?_
      rintro e w3 ⟨rfl, rfl⟩
      go_wp2_with fail
      refine (HM.out _).mono ?_
      rintro e w4 ⟨rfl, k2, rfl⟩
      go_wp2_with fail
      refine (HN.out _).mono ?_
      rintro e w5 ⟨rfl, k3, rfl⟩
      go_wp2_with fail
      go_ret
      exact ⟨rfl, HB.out.trans ((below_drewN w1 _).mono HB.out.size)⟩
  · clear a3 a4
    by_cases e2 : E2 = 0
    · subst e2
      have hB := HBB.out rfl
      go_enter Tryd.func8, Tryd.ntmps8
      go_wp2_with fail
      refine (begun _ HT.out).mono ?_
      rintro e w1 ⟨rfl, hb⟩
      have HB : Hid (Below w.heap.size w w1) := hb
      clear hb
      go_wp2_with fail
      refine (HR.out w1).mono ?_
      rintro e w2 ⟨rfl, k1, rfl⟩
      go_wp2_with fail
      refine (choose_any more 1000 _ bm.1 bm.2 (by omega) (by omega)).mono ?_
      rintro e w3 ⟨rfl, rfl⟩
      go_wp2_with fail
      refine (HM.out _).mono ?_
      rintro e w4 ⟨rfl, k2, rfl⟩
      go_wp2_with fail
      refine (HN.out _).mono ?_
      rintro e w5 ⟨rfl, k3, rfl⟩
      go_wp2_with fail
      go_ret
      exact ⟨rfl, HB.out.trans ((below_drewN w1 _).mono HB.out.size)⟩
    · have e2' : (E2 == 0) = false := by simp [e2]
      clear e2
      go_enter Tryd.func8, Tryd.ntmps8
      go_wp2_with fail
      refine (begun _ HT.out).mono ?_
      rintro e w1 ⟨rfl, hb⟩
      have HB : Hid (Below w.heap.size w w1) := hb
      clear hb
      go_wp2_with fail
      refine (HR.out w1).mono ?_
      rintro e w2 ⟨rfl, k1, rfl⟩
      go_wp2_with fail
      refine (choose_any more 1000 _ bm.1 bm.2 (by omega) (by omega)).mono ?_
      rintro e w3 ⟨rfl, rfl⟩
      go_wp2_with fail
      refine (HM.out _).mono ?_
      rintro e w4 ⟨rfl, k2, rfl⟩
      go_wp2_with fail
      refine (HN.out _).mono ?_
      rintro e w5 ⟨rfl, k3, rfl⟩
      go_wp2_with fail
      go_ret
      exact ⟨rfl, HB.out.trans ((below_drewN w1 _).mono HB.out.size)⟩
set_option maxHeartbeats 2000000 in
theorem near_4 (n more d way A E2 B : Int) (w : World) (ht : Tab w) (bm : -9223372036854775808 ≤ more ∧ more ≤ 9223372036854775807)
    (hn : -1000000000000000000 ≤ n) (hn' : n ≤ 1000000000000000000) (hd : 1 ≤ d) (hd' : d ≤ 1000000) (h3 : (way == 3) = false) (h4 : (way == 4) = true) (hw : 1 ≤ way) (hw' : way ≤ 6)
    (hA1 : -1000000000000000001 ≤ A) (hA2 : A ≤ 1000000000000000001) (a1 : -d < A * d - n) (a2 : A * d - n < d) (a3 : 5 ≤ way → -d ≤ 2 * (A * d - n)) (a4 : 5 ≤ way → 2 * (A * d - n) ≤ d)
    (hr : ∀ w, Calls Tryd.prog 11 #[.int .i64 n, .int .i64 d, .int .i64 way] w fun e w' => e = .returned (.tuple #[.int .i64 A, .int .i64 0]) ∧ ∃ k, w' = w.drewN k)
    (hm : ∀ w, Calls Tryd.prog 11 #[.int .i64 (n + chooseI more 1000), .int .i64 d, .int .i64 way] w fun e w' => e = .returned (.tuple #[.int .i64 B, .int .i64 E2]) ∧ ∃ k, w' = w.drewN k)
    (hB : E2 = 0 → A ≤ B)
    (hg : ∀ w, Calls Tryd.prog 11 #[.int .i64 (-n), .int .i64 d, .int .i64 (7 - way)] w fun e w' => e = .returned (.tuple #[.int .i64 (-A), .int .i64 0]) ∧ ∃ k, w' = w.drewN k) :
    Calls Tryd.prog 8 #[.int .i64 n, .int .i64 more, .int .i64 d, .int .i64 way] w fun e w' => e = .returned (.bool true) ∧ Below w.heap.size w w' := by
  have HT : Hid (Tab w) := ht
  have HR : Hid (∀ w, Calls Tryd.prog 11 #[.int .i64 n, .int .i64 d, .int .i64 way] w fun e w' => e = .returned (.tuple #[.int .i64 A, .int .i64 0]) ∧ ∃ k, w' = w.drewN k) := hr
  have HM : Hid (∀ w, Calls Tryd.prog 11 #[.int .i64 (n + chooseI more 1000), .int .i64 d, .int .i64 way] w fun e w' => e = .returned (.tuple #[.int .i64 B, .int .i64 E2]) ∧ ∃ k, w' = w.drewN k) := hm
  have HN : Hid (∀ w, Calls Tryd.prog 11 #[.int .i64 (-n), .int .i64 d, .int .i64 (7 - way)] w fun e w' => e = .returned (.tuple #[.int .i64 (-A), .int .i64 0]) ∧ ∃ k, w' = w.drewN k) := hg
  have HBB : Hid (E2 = 0 → A ≤ B) := hB
  have hc := choose_bd more 1000 (by omega)
  obtain ⟨hc0, hc1⟩ := hc
  clear ht hr hm hg hB
  by_cases h5 : 5 ≤ way
  · have a3' := a3 h5
    have a4' := a4 h5
    clear a3 a4
    by_cases e2 : E2 = 0
    · subst e2
      have hB := HBB.out rfl
      go_enter Tryd.func8, Tryd.ntmps8
      go_wp2_with fail
      refine (begun _ HT.out).mono ?_
      rintro e w1 ⟨rfl, hb⟩
      have HB : Hid (Below w.heap.size w w1) := hb
      clear hb
      go_wp2_with fail
      refine (HR.out w1).mono ?_
      rintro e w2 ⟨rfl, k1, rfl⟩
      go_wp2_with fail
      refine (choose_any more 1000 _ bm.1 bm.2 (by omega) (by omega)).mono ?_
      rintro e w3 ⟨rfl, rfl⟩
      go_wp2_with fail
      refine (HM.out _).mono ?_
      rintro e w4 ⟨rfl, k2, rfl⟩
      go_wp2_with fail
      refine (HN.out _).mono ?_
      rintro e w5 ⟨rfl, k3, rfl⟩
      go_wp2_with fail
      go_ret
      exact ⟨rfl, HB.out.trans ((below_drewN w1 _).mono HB.out.size)⟩
    · have e2' : (E2 == 0) = false := by simp [e2]
      clear e2
      go_enter Tryd.func8, Tryd.ntmps8
      go_wp2_with fail
      refine (begun _ HT.out).mono ?_
      rintro e w1 ⟨rfl, hb⟩
      have HB : Hid (Below w.heap.size w w1) := hb
      clear hb
      go_wp2_with fail
      refine (HR.out w1).mono ?_
      rintro e w2 ⟨rfl, k1, rfl⟩
      go_wp2_with fail
      refine (choose_any more 1000 _ bm.1 bm.2 (by omega) (by omega)).mono ?_
      rintro e w3 ⟨rfl, rfl⟩
      go_wp2_with fail
      refine (HM.out _).mono ?_
      rintro e w4 ⟨rfl, k2, rfl⟩
      go_wp2_with fail
      refine (HN.out _).mono ?_
      rintro e w5 ⟨rfl, k3, rfl⟩
      go_wp2_with fail
      go_ret
      exact ⟨rfl, HB.out.trans ((below_drewN w1 _).mono HB.out.size)⟩
  · clear a3 a4
    by_cases e2 : E2 = 0
    · subst e2
      have hB := HBB.out rfl
      go_enter Tryd.func8, Tryd.ntmps8
      go_wp2_with fail
      refine (begun _ HT.out).mono ?_
      rintro e w1 ⟨rfl, hb⟩
      have HB : Hid (Below w.heap.size w w1) := hb
      clear hb
      go_wp2_with fail
      refine (HR.out w1).mono ?_
      rintro e w2 ⟨rfl, k1, rfl⟩
      go_wp2_with fail
      refine (choose_any more 1000 _ bm.1 bm.2 (by omega) (by omega)).mono ?_
      rintro e w3 ⟨rfl, rfl⟩
      go_wp2_with fail
      refine (HM.out _).mono ?_
      rintro e w4 ⟨rfl, k2, rfl⟩
      go_wp2_with fail
      refine (HN.out _).mono ?_
      rintro e w5 ⟨rfl, k3, rfl⟩
      go_wp2_with fail
      go_ret
      exact ⟨rfl, HB.out.trans ((below_drewN w1 _).mono HB.out.size)⟩
    · have e2' : (E2 == 0) = false := by simp [e2]
      clear e2
      go_enter Tryd.func8, Tryd.ntmps8
      go_wp2_with fail
      refine (begun _ HT.out).mono ?_
      rintro e w1 ⟨rfl, hb⟩
      have HB : Hid (Below w.heap.size w w1) := hb
      clear hb
      go_wp2_with fail
      refine (HR.out w1).mono ?_
      rintro e w2 ⟨rfl, k1, rfl⟩
      go_wp2_with fail
      refine (choose_any more 1000 _ bm.1 bm.2 (by omega) (by omega)).mono ?_
      rintro e w3 ⟨rfl, rfl⟩
      go_wp2_with fail
      refine (HM.out _).mono ?_
      rintro e w4 ⟨rfl, k2, rfl⟩
      go_wp2_with fail
      refine (HN.out _).mono ?_
      rintro e w5 ⟨rfl, k3, rfl⟩
      go_wp2_with fail
      go_ret
      exact ⟨rfl, HB.out.trans ((below_drewN w1 _).mono HB.out.size)⟩

theorem walk_moneyNear (n : Int) (wn : (Lit.int .i64 n).wf = true) (more : Int) (wm : (Lit.int .i64 more).wf = true) (d : Int) (_ : (Lit.int .i64 d).wf = true) (way : Int) (_ : (Lit.int .i64 way).wf = true) (w : World) (ht : Tab w) :
    Calls Tryd.prog 8 #[.int .i64 n, .int .i64 more, .int .i64 d, .int .i64 way] w fun e w' => e = .returned (.bool true) ∧ Below w.heap.size w w' := by
  have bm := bounds_i64 wm
  have _bn := bounds_i64 wn
  by_cases hE : rvE n d way = 0
  · obtain ⟨hw, ⟨d1, d2, n1, n2⟩, eA⟩ := rvE_ok hE
    have hA := rd_bound n d way d1 n1 n2
    have hN := rd_near n d way d1
    have hH : 5 ≤ way → -d ≤ 2 * (rd n d way * d - n) ∧ 2 * (rd n d way * d - n) ≤ d := fun h => rd_half n d way d1 (by omega)
    have hr : ∀ w, Calls Tryd.prog 11 #[.int .i64 n, .int .i64 d, .int .i64 way] w fun e w' => e = .returned (.tuple #[.int .i64 (rd n d way), .int .i64 0]) ∧ ∃ k, w' = w.drewN k := fun w => by
      have := round_any n d way w; rw [hE, eA] at this; exact this
    have hm := round_any (n + chooseI more 1000) d way
    have hB : rvE (n + chooseI more 1000) d way = 0 → rd n d way ≤ rvN (n + chooseI more 1000) d way := fun h => by
      have := rv_more hE (m := n + chooseI more 1000) (by have := choose_bd more 1000 (by omega); omega) h
      rw [eA] at this; exact this
    have hg : ∀ w, Calls Tryd.prog 11 #[.int .i64 (-n), .int .i64 d, .int .i64 (turned way)] w fun e w' => e = .returned (.tuple #[.int .i64 (-(rd n d way)), .int .i64 0]) ∧ ∃ k, w' = w.drewN k := fun w => by
      have := round_any (-n) d (turned way) w; rw [(rv_turned hE).1, (rv_turned hE).2, eA] at this; exact this
    by_cases h3 : way = 3
    · have ht3 : turned way = 7 - way := by unfold turned; rw [if_pos (Or.inl h3)]
      rw [ht3] at hg
      exact near_3 n more d way _ _ _ w ht bm n1 n2 d1 d2 (by simp [h3]) hw.1 hw.2 hA.1 hA.2 hN.1 hN.2 (fun h => (hH h).1) (fun h => (hH h).2) hr hm hB hg
    · by_cases h4 : way = 4
      · have ht4 : turned way = 7 - way := by unfold turned; rw [if_pos (Or.inr h4)]
        rw [ht4] at hg
        exact near_4 n more d way _ _ _ w ht bm n1 n2 d1 d2 (by simp [h3]) (by simp [h4]) hw.1 hw.2 hA.1 hA.2 hN.1 hN.2 (fun h => (hH h).1) (fun h => (hH h).2) hr hm hB hg
      · have ht5 : turned way = way := by unfold turned; rw [if_neg (by omega)]
        rw [ht5] at hg
        exact near_plain n more d way _ _ _ w ht bm n1 n2 d1 d2 (by simp [h3]) (by simp [h4]) hw.1 hw.2 hA.1 hA.2 hN.1 hN.2 (fun h => (hH h).1) (fun h => (hH h).2) hr hm hB hg
  · have hE' : (rvE n d way != 0) = true := by simp [hE]
    have HT : Hid (Tab w) := ht
    clear ht
    go_enter Tryd.func8, Tryd.ntmps8
    go_wp2_with fail
    refine (begun _ HT.out).mono ?_
    rintro e w1 ⟨rfl, hb⟩
    have HB : Hid (Below w.heap.size w w1) := hb
    clear hb
    go_wp2_with fail
    refine (round_any n d way w1).mono ?_
    rintro e w2 ⟨rfl, k1, rfl⟩
    go_wp2_with fail
    go_ret
    exact ⟨rfl, HB.out.trans ((below_drewN w1 k1).mono HB.out.size)⟩
end Go.Proofs.YtiaphopimdljmaaDoor
