/-
  Promise P2: what payments come to, and the check of a file: the walks of IsDay, sum, checkNumber, and of the reference's IsDay and FileCheck.
-/
import Derived.Test.YtdfgkngfpedgdaaDoorLBankParts
import Derived.Lib.QuietBelow
namespace Go.Proofs.YtdfgkngfpedgdaaDoor
open Go.RowKit

def dayB (n : Int) : Bool := decide (0 ≤ n ∧ n ≤ 73048)
theorem dayB_iff {n : Int} : dayB n = true ↔ 0 ≤ n ∧ n ≤ 73048 := by unfold dayB; exact decide_eq_true_iff
theorem isDay_any (n : Int) (w : World) : Calls Tryd.prog 35 #[.int .i64 n] w fun e w' => e = .returned (.bool (dayB n)) ∧ w' = w := by
  by_cases h1 : 0 ≤ n
  · have H : Hid (dayB n = decide (n ≤ 73048)) := by unfold Hid dayB; rw [Bool.eq_iff_iff]; simp [h1]
    go_enter Tryd.func35, Tryd.ntmps35
    go_wp2
    go_ret
    exact ⟨tret_bool H.out.symm, rfl⟩
  · have H : Hid (dayB n = false) := decide_eq_false (by omega)
    have h1B : decide (0 ≤ n) = false := decide_eq_false h1
    go_enter Tryd.func35, Tryd.ntmps35
    go_wp2
    go_ret
    exact ⟨tret_bool H.out.symm, rfl⟩
theorem isDay_ref (n : Int) (w : World) : Calls Tryd.prog 42 #[.int .i64 n] w fun e w' => e = .returned (.bool (dayB n)) ∧ w' = w := by
  by_cases h1 : 0 ≤ n
  · have H : Hid (dayB n = decide (n ≤ 73048)) := by unfold Hid dayB; rw [Bool.eq_iff_iff]; simp [h1]
    go_enter Tryd.func42, Tryd.ntmps42
    go_wp2
    go_ret
    exact ⟨tret_bool H.out.symm, rfl⟩
  · have H : Hid (dayB n = false) := decide_eq_false (by omega)
    have h1B : decide (0 ≤ n) = false := decide_eq_false h1
    go_enter Tryd.func42, Tryd.ntmps42
    go_wp2
    go_ret
    exact ⟨tret_bool H.out.symm, rfl⟩
set_option maxRecDepth 100000 in
set_option maxHeartbeats 1000000 in
theorem sum_any (a : Option Addr) (n cap : Nat) (l : List Py) (w : World) (hc : CameP w a l) (hn : l.length = n) (hm : n ≤ 1000) (hb : MonB l) :
    Calls Tryd.prog 38 #[.slice a n cap] w fun e w' => e = .returned (.int .i64 (sumL l)) ∧ Below w.heap.size w w' := by
  have HO := Lib.hid (fun h0 => hc.open hn h0)
  have HN := Lib.hid hn
  have HMB := Lib.hid hb
  clear hc hn hb
  go_enter Tryd.func38, Tryd.ntmps38
  go_wp2_with fail
  go_loopw [3, 8] (fun v i wr => ∃ k : Nat, k ≤ n ∧ i = .int .i64 k ∧ v = .int .i64 (sumL (l.take k)) ∧ Below w.heap.size w wr) (fun _ i _ => n - (intOf i).toNat)
  case atStart => exact ⟨0, Nat.zero_le _, rfl, rfl, Below.refl _ _⟩
  case round =>
    obtain ⟨k, hk, rfl, rfl, hbw⟩ := hrel
    have HB := Lib.hid hbw
    clear hbw
    by_cases hlt : k < n
    · have hlt' : (k : Int) < (n : Int) := by omega
      obtain ⟨b, off, rfl, hbl, hcell⟩ := HO.out (by omega)
      obtain ⟨x0, x1, x2, x3⟩ := hcell wr HB.out k hlt
      have HS : Hid (sumL (l.take (k + 1)) = sumL (l.take k) + (pnth l k).mon) := by unfold Hid; rw [take_snoc (by rw [HN.out]; exact hlt), sumL_append]; simp [sumL]
      have hb1 := sumL_bd HMB.out k (by rw [HN.out]; exact hk)
      have hb2 := HMB.out k (by rw [HN.out]; exact hlt)
      obtain ⟨s0, s1⟩ := hb1
      obtain ⟨m0, m1⟩ := hb2
      have s2 : sumL (l.take k) ≤ 1000000000000000 := by omega
      have HBX := Lib.hid (HB.out.alloc HB.out.size (.cells #[.string (pnth l k).acc, .string (pnth l k).nam, .int .i64 (pnth l k).mon, .int .i64 (pnth l k).ref] 46))
      clear hcell s1
      generalize sumL (l.take k) = S at *
      generalize (pnth l k).mon = mo at *
      go_wp2_with fail
      go_roundw
      case rel => exact ⟨k + 1, by omega, by go_num, by rw [HS.out], HBX.out⟩
      case measure => simp [intOf]; omega
    · obtain rfl : n = k := by omega
      have HT : Hid (l.take n = l) := List.take_of_length_le (by rw [HN.out]; exact Nat.le_refl _)
      rw [HT.out]
      go_wp2_with fail
      go_ret
      exact ⟨rfl, HB.out⟩
/-- What a payment adds to the check of a file. -/
def term (l : List Py) (k : Nat) : Int := ((k : Int) + 1) * ((pnth l k).mon + (pnth l k).ref + numN (pnth l k).acc (pnth l k).acc.size)
def chkS (l : List Py) (day : Int) : Nat → Int
  | 0 => day
  | k + 1 => chkS l day k + term l k
def chkR (l : List Py) (day : Int) : Nat → Int
  | 0 => day
  | k + 1 => chkR l day k + term l k % 9999999967
def chkN (l : List Py) (day : Int) (n : Nat) : Int := chkS l day n % 9999999967
/-- What holds of payments that pass. -/
def OkP (p : Py) : Prop := (accB p.acc = true ∧ nameB p.nam = true) ∧ (1 ≤ p.mon ∧ p.mon ≤ 1000000000000) ∧ 0 ≤ p.ref ∧ p.ref ≤ 999999
theorem OkP.num {p : Py} (h : OkP p) : 0 ≤ numN p.acc p.acc.size ∧ numN p.acc p.acc.size < 1000000000000000 ∧ p.acc.size = 12 ∧ allT digB p.acc = true := by
  obtain ⟨hd, hz, _⟩ := accB_iff.1 h.1.1
  have := numN_cap (s := p.acc) (k := p.acc.size) (by omega) (fun j hj => allT_iff.1 hd j hj)
  exact ⟨this.1, this.2, hz, hd⟩
theorem term_bd {l : List Py} {k : Nat} (h : OkP (pnth l k)) (hk : k < 300) : 0 ≤ term l k ∧ term l k ≤ 301000000000000000 := by
  obtain ⟨n0, n1, _, _⟩ := h.num
  obtain ⟨_, ⟨m0, m1⟩, r0, r1⟩ := h
  unfold term
  generalize numN (pnth l k).acc (pnth l k).acc.size = N at *
  have t0 : 0 ≤ (pnth l k).mon + (pnth l k).ref + N := by omega
  have t1 : (pnth l k).mon + (pnth l k).ref + N ≤ 1001001001000000 := by omega
  generalize (pnth l k).mon + (pnth l k).ref + N = t at *
  refine ⟨Int.mul_nonneg (by omega) t0, ?_⟩
  have := Int.mul_le_mul (show (k : Int) + 1 ≤ 300 by omega) t1 t0 (by omega)
  omega
theorem term_fine {l : List Py} {k : Nat} (h : OkP (pnth l k)) (hk : k < 300) : 0 ≤ term l k ∧ term l k ≤ 300300300300000 * 300 := by
  have := term_bd h hk
  obtain ⟨n0, n1, hz, hd⟩ := h.num
  refine ⟨this.1, ?_⟩
  have hn12 : numN (pnth l k).acc (pnth l k).acc.size < 1000000000000 := by
    rw [hz]
    have h12 := (numN_bd (s := (pnth l k).acc) (k := 12) (fun j hj => allT_iff.1 hd j (by omega))).2
    have e : (10 : Int) ^ 12 = 1000000000000 := by decide
    omega
  obtain ⟨_, ⟨m0, m1⟩, r0, r1⟩ := h
  unfold term
  generalize numN (pnth l k).acc (pnth l k).acc.size = N at *
  have t0 : 0 ≤ (pnth l k).mon + (pnth l k).ref + N := by omega
  have t1 : (pnth l k).mon + (pnth l k).ref + N ≤ 2000001000000 := by omega
  generalize (pnth l k).mon + (pnth l k).ref + N = t at *
  have := Int.mul_le_mul (show (k : Int) + 1 ≤ 300 by omega) t1 t0 (by omega)
  omega
theorem chkS_bd {l : List Py} {day : Int} {n : Nat} (h : ∀ j, j < n → OkP (pnth l j)) (hn : n ≤ 300) (hd : 0 ≤ day ∧ day ≤ 73048) : ∀ k, k ≤ n → 0 ≤ chkS l day k ∧ chkS l day k ≤ 73048 + 601000000000000 * k
  | 0, _ => by simp [chkS]; omega
  | k + 1, hk => by
    have ih := chkS_bd h hn hd k (by omega)
    have ht := h k (by omega)
    obtain ⟨n0, n1, hz, hdd⟩ := ht.num
    have hn12 : numN (pnth l k).acc (pnth l k).acc.size < 1000000000000 := by
      rw [hz]
      have h12 := (numN_bd (s := (pnth l k).acc) (k := 12) (fun j hj => allT_iff.1 hdd j (by omega))).2
      have e : (10 : Int) ^ 12 = 1000000000000 := by decide
      omega
    obtain ⟨_, ⟨m0, m1⟩, r0, r1⟩ := ht
    have htm : 0 ≤ term l k ∧ term l k ≤ 601000000000000 := by
      unfold term
      generalize numN (pnth l k).acc (pnth l k).acc.size = N at *
      have t0 : 0 ≤ (pnth l k).mon + (pnth l k).ref + N := by omega
      have t1 : (pnth l k).mon + (pnth l k).ref + N ≤ 2000001000000 := by omega
      generalize (pnth l k).mon + (pnth l k).ref + N = t at *
      refine ⟨Int.mul_nonneg (by omega) t0, ?_⟩
      have := Int.mul_le_mul (show (k : Int) + 1 ≤ 300 by omega) t1 t0 (by omega)
      omega
    rw [chkS]
    omega
theorem chkR_mod {l : List Py} {day : Int} : ∀ k, chkR l day k % 9999999967 = chkS l day k % 9999999967
  | 0 => rfl
  | k + 1 => by
    have ih := chkR_mod (l := l) (day := day) k
    rw [chkR, chkS]
    omega
theorem chkR_bd {l : List Py} {day : Int} (hd : 0 ≤ day ∧ day ≤ 73048) : ∀ k, 0 ≤ chkR l day k ∧ chkR l day k ≤ 73048 + 9999999967 * k
  | 0 => by simp [chkR]; omega
  | k + 1 => by
    have ih := chkR_bd (l := l) hd k
    rw [chkR]
    omega
theorem chkN_bd (l : List Py) (day : Int) (n : Nat) : 0 ≤ chkN l day n ∧ chkN l day n < 9999999967 := by unfold chkN; omega
set_option maxRecDepth 100000 in
set_option maxHeartbeats 2000000 in
theorem checkNumber_any (day : Int) (a : Option Addr) (n cap : Nat) (l : List Py) (w : World) (hc : CameP w a l) (hn : l.length = n) (hm : n ≤ 300) (hok : ∀ j, j < n → OkP (pnth l j)) (hd : 0 ≤ day ∧ day ≤ 73048) :
    Calls Tryd.prog 40 #[.int .i64 day, .slice a n cap] w fun e w' => e = .returned (.int .i64 (chkN l day n)) ∧ Below w.heap.size w w' := by
  have HO := Lib.hid (fun h0 => hc.open hn h0)
  have HOK := Lib.hid hok
  have HBD := Lib.hid (chkS_bd hok hm hd)
  clear hc hn hok hd
  go_enter Tryd.func40, Tryd.ntmps40
  go_wp2_with fail
  go_loopw [5, 11] (fun v i wr => ∃ k : Nat, k ≤ n ∧ i = .int .i64 k ∧ v = .int .i64 (chkS l day k) ∧ Below w.heap.size w wr) (fun _ i _ => n - (intOf i).toNat)
  case atStart => exact ⟨0, Nat.zero_le _, rfl, rfl, Below.refl _ _⟩
  case round =>
    obtain ⟨k, hk, rfl, rfl, hbw⟩ := hrel
    have HB := Lib.hid hbw
    clear hbw
    by_cases hlt : k < n
    · have hlt' : (k : Int) < (n : Int) := by omega
      obtain ⟨b, off, rfl, hbl, hcell⟩ := HO.out (by omega)
      obtain ⟨x0, x1, x2, x3⟩ := hcell wr HB.out k hlt
      have hokk := HOK.out k hlt
      obtain ⟨n0, n1, hz, hdd⟩ := hokk.num
      have HNUM := Lib.hid (fun w => number_any (pnth l k).acc w hdd (by omega))
      have hS := HBD.out k hk
      have hS2 := HBD.out (k + 1) (by omega)
      have htb := term_fine hokk (by omega)
      obtain ⟨_, ⟨m0, m1⟩, r0, r1⟩ := hokk
      have HC : Hid (chkS l day (k + 1) = chkS l day k + term l k) := rfl
      rw [HC.out] at hS2
      have HTM : Hid (term l k = ((k : Int) + 1) * ((pnth l k).mon + (pnth l k).ref + numN (pnth l k).acc (pnth l k).acc.size)) := rfl
      have HBX := Lib.hid (HB.out.alloc HB.out.size (.cells #[.string (pnth l k).acc, .string (pnth l k).nam, .int .i64 (pnth l k).mon, .int .i64 (pnth l k).ref] 46))
      obtain ⟨y0, y1, y2, y3⟩ := py_box (Below.refl (wr.alloc (.cells #[.string (pnth l k).acc, .string (pnth l k).nam, .int .i64 (pnth l k).mon, .int .i64 (pnth l k).ref] 46)).heap.size (wr.alloc (.cells #[.string (pnth l k).acc, .string (pnth l k).nam, .int .i64 (pnth l k).mon, .int .i64 (pnth l k).ref] 46)))
      clear hcell hbl hz hdd
      generalize numN (pnth l k).acc (pnth l k).acc.size = N at *
      generalize term l k = tm at *
      generalize chkS l day k = S at *
      generalize (pnth l k).ref = rf at *
      generalize (pnth l k).acc = ac at *
      generalize (pnth l k).nam = nm at *
      generalize (pnth l k).mon = mo at *
      obtain ⟨s1, hs1⟩ : ∃ s1, s1 = mo + rf := ⟨_, rfl⟩
      obtain ⟨s2, hs2⟩ : ∃ s2, s2 = s1 + N := ⟨_, rfl⟩
      have hw0 : IntKind.i64.wrap ((k : Int) + 1) = (k : Int) + 1 := IntWalk.i64_in _ (by omega)
      have hw1 : IntKind.i64.wrap (mo + rf) = s1 := by rw [hs1]; exact IntWalk.i64_in _ (by omega)
      have hw2 : IntKind.i64.wrap (s1 + N) = s2 := by rw [hs2]; exact IntWalk.i64_in _ (by omega)
      have hmul : ((k : Int) + 1) * s2 = tm := by rw [hs2, hs1, HTM.out]
      have hw3 : IntKind.i64.wrap (((k : Int) + 1) * s2) = tm := by rw [hmul]; exact IntWalk.i64_in _ (by omega)
      have hw4 : IntKind.i64.wrap (S + tm) = S + tm := IntWalk.i64_in _ (by omega)
      have hb1 : mo + rf = s1 := hs1.symm
      have hb2 : s1 + N = s2 := hs2.symm
      clear HTM hs1 hs2
      go_wp2_with fail
      clear x0 x1 x2 x3
      have k0 := cell_regrown y0
      have k1 := cell_regrown y1
      have k2 := cell_regrown y2
      have k3 := cell_regrown y3
      refine wp_region_quiet_below (by kernel_rfl) (by kernel_rfl) ?_
      repeat (go_big_quiet_step (exact Calls.regrown_of (HNUM.out _)))
      refine wpQuiet_nil ?_
      intro _ hw'
      obtain ⟨⟨dq, osq⟩, hw''⟩ := hw'
      subst hw''
      go_wp2_with fail
      go_roundw
      case rel => exact ⟨k + 1, by omega, by go_num, by rw [HC.out], HBX.out.trans ((below_regrown _ dq osq).mono HBX.out.size)⟩
      case measure => simp [intOf]; omega
    · obtain rfl : n = k := by omega
      have HR : Hid (chkN l day n = chkS l day n % 9999999967) := rfl
      have hS := (HBD.out n hk).1
      generalize chkS l day n = S at *
      have hmod : S.tmod 9999999967 = S % 9999999967 := Int.tmod_eq_emod_of_nonneg hS
      go_wp2_with fail
      go_ret
      exact ⟨tret_int (by rw [HR.out]), HB.out⟩
set_option maxRecDepth 100000 in
set_option maxHeartbeats 2000000 in
theorem fileCheck_ref (day : Int) (a : Option Addr) (n cap : Nat) (l : List Py) (w : World) (hc : CameP w a l) (hn : l.length = n) (hm : n ≤ 300) (hok : ∀ j, j < n → OkP (pnth l j)) (hd : 0 ≤ day ∧ day ≤ 73048) :
    Calls Tryd.prog 44 #[.int .i64 day, .slice a n cap] w fun e w' => e = .returned (.int .i64 (chkN l day n)) ∧ Below w.heap.size w w' := by
  have HO := Lib.hid (fun h0 => hc.open hn h0)
  have HOK := Lib.hid hok
  have HBD := Lib.hid (chkR_bd (l := l) hd)
  clear hc hn hok hd
  go_enter Tryd.func44, Tryd.ntmps44
  go_wp2_with fail
  go_loopw [5, 6] (fun v i wr => ∃ k : Nat, k ≤ n ∧ i = .int .i64 k ∧ v = .int .i64 (chkR l day k) ∧ Below w.heap.size w wr) (fun _ i _ => n - (intOf i).toNat)
  case atStart => exact ⟨0, Nat.zero_le _, rfl, rfl, Below.refl _ _⟩
  case round =>
    obtain ⟨k, hk, rfl, rfl, hbw⟩ := hrel
    have HB := Lib.hid hbw
    clear hbw
    by_cases hlt : k < n
    · have hlt' : (k : Int) < (n : Int) := by omega
      obtain ⟨b, off, rfl, hbl, hcell⟩ := HO.out (by omega)
      obtain ⟨x0, x1, x2, x3⟩ := hcell wr HB.out k hlt
      have hokk := HOK.out k hlt
      obtain ⟨n0, n1, hz, hdd⟩ := hokk.num
      have HNUM : Hid (∀ w, Calls Tryd.prog 34 #[.string (pnth l k).acc] w fun e w' => e = .returned (.int .i64 (numN (pnth l k).acc (pnth l k).acc.size)) ∧ Below w.heap.size w w') := fun w => (number_ref (pnth l k).acc w hdd (by omega)).mono fun _ _ ⟨h1, h2⟩ => ⟨h1, h2 ▸ Below.refl _ _⟩
      have hS := HBD.out k
      have htb := term_fine hokk (by omega)
      obtain ⟨_, ⟨m0, m1⟩, r0, r1⟩ := hokk
      have HC : Hid (chkR l day (k + 1) = chkR l day k + term l k % 9999999967) := rfl
      have HTM : Hid (term l k = ((k : Int) + 1) * ((pnth l k).mon + (pnth l k).ref + numN (pnth l k).acc (pnth l k).acc.size)) := rfl
      clear hcell hbl hz hdd
      generalize numN (pnth l k).acc (pnth l k).acc.size = N at *
      generalize term l k = tm at *
      generalize chkR l day k = S at *
      generalize (pnth l k).ref = rf at *
      generalize (pnth l k).acc = ac at *
      generalize (pnth l k).nam = nm at *
      generalize (pnth l k).mon = mo at *
      obtain ⟨s1, hs1⟩ : ∃ s1, s1 = mo + rf := ⟨_, rfl⟩
      obtain ⟨s2, hs2⟩ : ∃ s2, s2 = s1 + N := ⟨_, rfl⟩
      obtain ⟨tr, htr⟩ : ∃ tr, tr = tm % 9999999967 := ⟨_, rfl⟩
      have hw0 : IntKind.i64.wrap ((k : Int) + 1) = (k : Int) + 1 := IntWalk.i64_in _ (by omega)
      have hw1 : IntKind.i64.wrap (mo + rf) = s1 := by rw [hs1]; exact IntWalk.i64_in _ (by omega)
      have hw2 : IntKind.i64.wrap (s1 + N) = s2 := by rw [hs2]; exact IntWalk.i64_in _ (by omega)
      have hmul : ((k : Int) + 1) * s2 = tm := by rw [hs2, hs1, HTM.out]
      have hw3 : IntKind.i64.wrap (((k : Int) + 1) * s2) = tm := by rw [hmul]; exact IntWalk.i64_in _ (by omega)
      have hr1 : tm.tmod 9999999967 = tr := by rw [htr]; exact Int.tmod_eq_emod_of_nonneg htb.1
      have hr2 : tm % 9999999967 = tr := htr.symm
      have hw4 : IntKind.i64.wrap (S + tr) = S + tr := IntWalk.i64_in _ (by omega)
      have hb1 : mo + rf = s1 := hs1.symm
      have hb2 : s1 + N = s2 := hs2.symm
      rw [← htr] at HC
      clear HTM hs1 hs2 htr
      have k0 := cell_regrown x0
      have k1 := cell_regrown x1
      have k2 := cell_regrown x2
      have k3 := cell_regrown x3
      go_wp2_with fail
      refine wp_region_quiet_below (by kernel_rfl) (by kernel_rfl) ?_
      repeat (go_big_quiet_step (exact Calls.regrown_of (HNUM.out _)))
      refine wpQuiet_nil ?_
      intro _ hw'
      obtain ⟨⟨dq, osq⟩, hw''⟩ := hw'
      subst hw''
      go_wp2_with fail
      go_roundw
      case rel => exact ⟨k + 1, by omega, by go_num, by rw [HC.out], HB.out.trans ((below_regrown _ dq osq).mono HB.out.size)⟩
      case measure => simp [intOf]; omega
    · obtain rfl : n = k := by omega
      have HR : Hid (chkN l day n = chkR l day n % 9999999967) := (chkR_mod n).symm
      have hS := (HBD.out n).1
      generalize chkR l day n = S at *
      have hmod : S.tmod 9999999967 = S % 9999999967 := Int.tmod_eq_emod_of_nonneg hS
      go_wp2_with fail
      go_ret
      exact ⟨tret_int (by rw [HR.out]), HB.out⟩
theorem okP_of {l : List Py} {n : Nat} (h : ∀ j, j < n → wrongP (pnth l j) = 0) (j : Nat) (hj : j < n) : OkP (pnth l j) := by
  have := wrongP_zero (h j hj)
  exact ⟨⟨this.1, this.2.1⟩, this.2.2⟩
end Go.Proofs.YtdfgkngfpedgdaaDoor
