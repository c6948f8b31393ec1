/-
  Promise B4: walks of the reference's CheckHolidays, Place, IsWorkday, WorkdaysOf, SeekWorkday.
-/
import Derived.Test.YtoaobblhmnikgaaCLast
import Derived.Test.YtoaobblhmnikgaaCRef
namespace Go.Proofs.Ytoaobblhmnikgaa
open Go.RowKit Go.Maps

theorem Came.open {w : World} {a : Option Addr} {l : List Int} (h : Came w a l) {n : Nat} (hn : l.length = n) (h0 : 0 < n) : ∃ b off, a = some ⟨b, off, none⟩ ∧ ∀ k, k < n → w.cell? ⟨b, off + k, none⟩ = some (.int .i64 (nth l k)) := by
  rcases h with h | ⟨b, off, rfl, h⟩
  · omega
  · exact ⟨b, off, rfl, fun k hk => h.cell (by omega)⟩

set_option maxHeartbeats 2000000 in
theorem checkHolidays_ref (a : Option Addr) (n cap : Nat) (l : List Int) (b2 m c2 : Nat) (q : List Int) (w : World) (hc : Came w a l) (hn : l.length = n) (hm : n ≤ maxLen)
    (hc2 : ∀ k, k < m → w.cell? ⟨b2, k, none⟩ = some (.int .i64 (nth q k))) (hq : q.length = m) (hm2 : m ≤ 60) :
    Calls Try.prog 40 #[.slice a n cap, .slice (some ⟨b2, 0, none⟩) m c2] w fun e w' => e = .returned (.int .i64 (checkE l q)) ∧ ∃ k, w' = w.drewN k := by
  have hm' : n ≤ 9223372036854775807 := by unfold maxLen at hm; omega
  have HO := Lib.hid (fun h0 => hc.open hn h0)
  have HC2 := Lib.hid hc2
  clear hm hc hc2
  by_cases h60 : 60 < n
  · have HE : Hid (checkE l q = 2) := by unfold Hid checkE; rw [if_pos (by omega)]
    have h60' : (60 : Int) < (n : Int) := by omega
    go_enter Try.func40, Try.ntmps40
    go_wp2_with fail
    go_ret
    exact ⟨cret_int HE.out.symm, 0, rfl⟩
  · have h60' : ¬ ((60 : Int) < (n : Int)) := by omega
    go_enter Try.func40, Try.ntmps40
    go_wp2_with fail
    go_loop [5] (fun i => ∃ k : Nat, k ≤ n ∧ i = .int .i64 k ∧ ∀ j, j < k → dayB (nth l j) = true) (fun i => n - (intOf i).toNat)
    case atStart => exact ⟨0, Nat.zero_le _, rfl, fun j hj => by omega⟩
    case round =>
      obtain ⟨k, hk, rfl, hall⟩ := hrel
      have HA := Lib.hid hall
      clear hall
      by_cases hlt : k < n
      · have hlt' : (k : Int) < (n : Int) := by omega
        obtain ⟨b, off, rfl, hcell⟩ := HO.out (by omega)
        have x1 := hcell k hlt
        clear hcell
        cases hr : dayB (nth l k)
        · have HE : Hid (checkE l q = 3) := by unfold Hid checkE; rw [if_neg (by omega), if_pos (.inr (not_all_nth (l := l) (j := k) (by omega) hr))]
          go_wp2_with (go_at_call 32; refine (isDay_ref _ _).mono ?_; rintro e w' ⟨rfl, rfl⟩)
          go_ret
          exact ⟨cret_int HE.out.symm, 0, rfl⟩
        · go_wp2_with (go_at_call 32; refine (isDay_ref _ _).mono ?_; rintro e w' ⟨rfl, rfl⟩)
          go_round
          case rel =>
            refine ⟨k + 1, by omega, by go_num, ?_⟩
            intro j hj
            by_cases e : j = k
            · subst e; exact hr
            · exact HA.out j (by omega)
          case measure => simp [intOf]; omega
      · have hkn : k = n := by omega
        subst hkn
        have HL := Lib.hid (all_nth (l := l) (P := dayB) (fun j hj => HA.out j (by omega)))
        clear HA
        go_wp2_with fail
        go_loop [6] (fun i => ∃ k : Nat, k ≤ m ∧ i = .int .i64 k ∧ ∀ j, j < k → dayB (nth q j) = true) (fun i => m - (intOf i).toNat)
        case atStart => exact ⟨0, Nat.zero_le _, rfl, fun j hj => by omega⟩
        case round =>
          obtain ⟨i, hi, rfl, hall⟩ := hrel
          have HA := Lib.hid hall
          clear hall
          by_cases hlt : i < m
          · have hlt' : (i : Int) < (m : Int) := by omega
            have x1 := HC2.out i hlt
            cases hr : dayB (nth q i)
            · have HE : Hid (checkE l q = 3) := by unfold Hid checkE; rw [if_neg (by omega), if_pos (.inl (not_all_nth (l := q) (j := i) (by omega) hr))]
              go_wp2_with (go_at_call 32; refine (isDay_ref _ _).mono ?_; rintro e w' ⟨rfl, rfl⟩)
              go_ret
              exact ⟨cret_int HE.out.symm, 0, rfl⟩
            · go_wp2_with (go_at_call 32; refine (isDay_ref _ _).mono ?_; rintro e w' ⟨rfl, rfl⟩)
              go_round
              case rel =>
                refine ⟨i + 1, by omega, by go_num, ?_⟩
                intro j hj
                by_cases e : j = i
                · subst e; exact hr
                · exact HA.out j (by omega)
              case measure => simp [intOf]; omega
          · have him : i = m := by omega
            subst him
            have HQ := Lib.hid (all_nth (l := q) (P := dayB) (fun j hj => HA.out j (by omega)))
            have HE0 : Hid (checkE l q = if riseB l = false then 4 else 0) := by
              unfold Hid checkE
              rw [if_neg (by omega), if_neg (by rw [HQ.out, HL.out]; simp)]
            clear HA
            go_wp2_with fail
            go_loopw [7] (fun i wr => ∃ r p : Nat, (r + 1 ≤ k ∨ r = 0) ∧ i = .int .i64 ((r : Int) + 1) ∧ wr = w.drewN p ∧ ∀ j, j < r → nth l j < nth l (j + 1)) (fun i _ => k - (intOf i).toNat)
            case atStart => exact ⟨0, 0, .inr rfl, rfl, rfl, fun j hj => by omega⟩
            case round =>
              obtain ⟨r, p, hrk, rfl, rfl, hall⟩ := hrel
              have HA := Lib.hid hall
              clear hall
              by_cases hlt : r + 1 < k
              · have hlt' : (r : Int) + 1 < (k : Int) := by omega
                have hlt0 : (r : Int) < (k : Int) := by omega
                obtain ⟨b, off, rfl, hcell⟩ := HO.out (by omega)
                have x1 := hcell r (by omega)
                have x2 := hcell (r + 1) (by omega)
                clear hcell
                have hsub : (r : Int) + 1 - 1 = (r : Int) := by omega
                have htn : ((r : Int) + 1).toNat = r + 1 := by omega
                by_cases hr : nth l (r + 1) ≤ nth l r
                · have HF := Lib.hid (riseB_not (l := l) (j := r) (by omega) hr)
                  have HE : Hid (checkE l q = 4) := by unfold Hid; rw [HE0.out, if_pos HF.out]
                  go_wp2_with fail
                  go_quiet (fail)
                  go_wp2_with fail
                  go_ret
                  exact ⟨cret_int HE.out.symm, _, by first | exact rfl | exact World.drewN_drewN | exact World.drewN_drewN _ _ _⟩
                · have hrB : decide (nth l (r + 1) ≤ nth l r) = false := decide_eq_false hr
                  go_wp2_with fail
                  go_quiet (fail)
                  go_wp2_with fail
                  go_roundw
                  case rel =>
                    refine ⟨r + 1, _, .inl (by omega), by go_num, rfl, ?_⟩
                    intro j hj
                    by_cases e : j = r
                    · subst e; omega
                    · exact HA.out j (by omega)
                  case measure => simp [intOf]; omega
              · have hnl : ¬ ((r : Int) + 1 < (k : Int)) := by omega
                have HF := Lib.hid (riseB_iff (l := l).2 (fun j hj => HA.out j (by omega)))
                have HE : Hid (checkE l q = 0) := by unfold Hid; rw [HE0.out, HF.out]; rfl
                go_wp2_with fail
                go_ret
                exact ⟨cret_int HE.out.symm, _, rfl⟩

/-- Is a number in a list? -/
def hasB (l : List Int) (x : Int) : Bool := l.contains x
theorem nth_contains {l : List Int} {k : Nat} {x : Int} (hk : k < l.length) (h : nth l k = x) : hasB l x = true := by
  unfold hasB
  rw [List.contains_iff_mem]
  subst h
  have : nth l k = l[k] := by simp [nth, List.getD_eq_getElem?_getD, hk]
  rw [this]
  exact List.getElem_mem hk
theorem not_contains {l : List Int} {x : Int} (h : ∀ j, j < l.length → nth l j ≠ x) : hasB l x = false := by
  unfold hasB
  rw [Bool.eq_false_iff]
  intro e
  obtain ⟨j, hj, rfl⟩ := List.mem_iff_getElem.1 (List.contains_iff_mem.1 e)
  exact h j hj (by simp [nth, List.getD_eq_getElem?_getD, hj])

set_option maxHeartbeats 1000000 in
theorem place_ref (a : Option Addr) (n cap : Nat) (l : List Int) (x : Int) (w : World) (hc : Came w a l) (hn : l.length = n) (hm : n ≤ 60) :
    Calls Try.prog 67 #[.slice a n cap, .int .i64 x] w fun e w' => ∃ i : Int, e = .returned (.int .i64 i) ∧ decide (i < 0) = !hasB l x ∧ w' = w := by
  have HO := Lib.hid (fun h0 => hc.open hn h0)
  clear hc
  go_enter Try.func67, Try.ntmps67
  go_wp2_with fail
  go_loop [5] (fun i => ∃ k : Nat, k ≤ n ∧ i = .int .i64 k ∧ ∀ j, j < k → nth l j ≠ x) (fun i => n - (intOf i).toNat)
  case atStart => exact ⟨0, Nat.zero_le _, rfl, fun j hj => by omega⟩
  case round =>
    obtain ⟨k, hk, rfl, hall⟩ := hrel
    have HA := Lib.hid hall
    clear hall
    by_cases hlt : k < n
    · have hlt' : (k : Int) < (n : Int) := by omega
      obtain ⟨b, off, rfl, hcell⟩ := HO.out (by omega)
      have x1 := hcell k hlt
      clear hcell
      by_cases hr : nth l k = x
      · have HF := Lib.hid (nth_contains (l := l) (k := k) (by omega) hr)
        have hrB : decide (nth l k = x) = true := decide_eq_true hr
        go_wp2_with fail
        go_ret
        exact ⟨_, rfl, by rw [HF.out]; simp, rfl⟩
      · have hrB : decide (nth l k = x) = false := decide_eq_false hr
        go_wp2_with fail
        go_round
        case rel =>
          refine ⟨k + 1, by omega, by go_num, ?_⟩
          intro j hj
          by_cases e : j = k
          · subst e; exact hr
          · exact HA.out j (by omega)
        case measure => simp [intOf]; omega
    · have HF := Lib.hid (not_contains (l := l) (x := x) (fun j hj => HA.out j (by omega)))
      go_wp2_with fail
      go_ret
      exact ⟨_, rfl, by rw [HF.out]; simp, rfl⟩

set_option maxHeartbeats 1000000 in
theorem isWorkday_ref (x : Int) (a : Option Addr) (n cap : Nat) (l : List Int) (w : World) (hx : dayB x = true) (hc : Came w a l) (hn : l.length = n) (hm : n ≤ 60) :
    Calls Try.prog 49 #[.int .i64 x, .slice a n cap] w fun e w' => e = .returned (.bool (workB l x)) ∧ w' = w := by
  obtain ⟨h0, h1⟩ := dayB_iff.1 hx
  have HP := Lib.hid (place_ref a n cap l x w hc hn hm)
  clear hc
  by_cases hw : wkd x < 5
  · have HW : Hid (workB l x = !hasB l x) := by unfold Hid workB hasB; simp [hw]
    go_enter Try.func49, Try.ntmps49
    go_wp2_with (first
      | (go_at_call 66; refine (weekday_ref _ _ (by omega) (by omega)).mono ?_; rintro e w' ⟨rfl, rfl⟩)
      | (go_at_call 67; refine HP.out.mono ?_; rintro e w' ⟨i, rfl, hi, rfl⟩))
    go_ret
    exact ⟨cret_bool (by rw [HW.out, ← hi]), rfl⟩
  · have hwB : decide (wkd x < 5) = false := decide_eq_false hw
    have HW : Hid (workB l x = false) := by unfold Hid workB; simp [hwB]
    go_enter Try.func49, Try.ntmps49
    go_wp2_with (first
      | (go_at_call 66; refine (weekday_ref _ _ (by omega) (by omega)).mono ?_; rintro e w' ⟨rfl, rfl⟩))
    go_ret
    exact ⟨cret_bool HW.out.symm, rfl⟩

/-- What SeekWorkday tells: the day, or -1. -/
def seekV (e r : Int) : Int := if e = 0 then r else -1
theorem seekV_ok (r : Int) : seekV 0 r = r := rfl
theorem seekV_no (r : Int) : seekV 5 r = -1 := rfl
set_option maxHeartbeats 1000000 in
theorem seek_next (d : Int) (a : Option Addr) (n cap : Nat) (l : List Int) (w : World) (hday : dayB d = true) (hc : Came w a l) (hn : l.length = n) (hm : n ≤ 60) :
    Calls Try.prog 41 #[.int .i64 d, .int .i64 1, .slice a n cap] w fun e w' => ∃ r er : Int, e = .returned (.int .i64 (seekV er r)) ∧ NextIs l d r er ∧ w' = w := by
  obtain ⟨hd0, hd1⟩ := dayB_iff.1 hday
  have HC := Lib.hid hc
  clear hc hday
  go_enter Try.func41, Try.ntmps41
  go_wp2_with fail
  go_loop [0] (fun dv => ∃ x : Int, dv = .int .i64 x ∧ d ≤ x ∧ x ≤ 73049 ∧ (∀ j, d ≤ j → j < x → workB l j = false)) (fun dv => 73050 - (intOf dv).toNat)
  case atStart => exact ⟨d, rfl, by omega, by omega, fun j h1 h2 => by omega⟩
  case round =>
    obtain ⟨x, rfl, hx0, hx1, hall⟩ := hrel
    have HA := Lib.hid hall
    clear hall
    cases hdx : dayB x
    · have hx : x = 73049 := by have := dayB_not.1 hdx; omega
      subst hx
      go_wp2_with (go_at_call 32; refine (isDay_ref _ _).mono ?_; rintro e w' ⟨rfl, rfl⟩)
      go_ret
      exact ⟨0, 5, cret_int (seekV_no 0).symm, .inr ⟨rfl, rfl, fun j h1 h2 => HA.out j h1 (by omega)⟩, rfl⟩
    · have hx2 : 0 ≤ x ∧ x ≤ 73048 := dayB_iff.1 hdx
      have HI := Lib.hid (isWorkday_ref x a n cap l w hdx HC.out hn hm)
      cases hwx : workB l x
      · rw [hwx] at HI
        go_wp2_with (first
          | (go_at_call 32; refine (isDay_ref _ _).mono ?_; rintro e w' ⟨rfl, rfl⟩)
          | (go_at_call 49; refine HI.out.mono ?_; rintro e w' ⟨rfl, rfl⟩))
        go_round
        case rel =>
          refine ⟨x + 1, by go_num, by omega, by omega, ?_⟩
          intro j h1 h2
          by_cases e : j = x
          · subst e; exact hwx
          · exact HA.out j h1 (by omega)
        case measure => simp [intOf]; omega
      · rw [hwx] at HI
        go_wp2_with (first
          | (go_at_call 32; refine (isDay_ref _ _).mono ?_; rintro e w' ⟨rfl, rfl⟩)
          | (go_at_call 49; refine HI.out.mono ?_; rintro e w' ⟨rfl, rfl⟩))
        go_ret
        exact ⟨x, 0, cret_int (seekV_ok x).symm, .inl ⟨rfl, hx0, hx2.2, hwx, HA.out⟩, rfl⟩
set_option maxHeartbeats 1000000 in
theorem seek_last (d : Int) (a : Option Addr) (n cap : Nat) (l : List Int) (w : World) (hday : dayB d = true) (hc : Came w a l) (hn : l.length = n) (hm : n ≤ 60) :
    Calls Try.prog 41 #[.int .i64 d, .int .i64 (-1), .slice a n cap] w fun e w' => ∃ r er : Int, e = .returned (.int .i64 (seekV er r)) ∧ LastIs l d r er ∧ w' = w := by
  obtain ⟨hd0, hd1⟩ := dayB_iff.1 hday
  have HC := Lib.hid hc
  clear hc hday
  go_enter Try.func41, Try.ntmps41
  go_wp2_with fail
  go_loop [0] (fun dv => ∃ x : Int, dv = .int .i64 x ∧ -1 ≤ x ∧ x ≤ d ∧ (∀ j, x < j → j ≤ d → workB l j = false)) (fun dv => (intOf dv + 1).toNat)
  case atStart => exact ⟨d, rfl, by omega, by omega, fun j h1 h2 => by omega⟩
  case round =>
    obtain ⟨x, rfl, hx0, hx1, hall⟩ := hrel
    have HA := Lib.hid hall
    clear hall
    cases hdx : dayB x
    · have hx : x = -1 := by have := dayB_not.1 hdx; omega
      subst hx
      go_wp2_with (go_at_call 32; refine (isDay_ref _ _).mono ?_; rintro e w' ⟨rfl, rfl⟩)
      go_ret
      exact ⟨0, 5, cret_int (seekV_no 0).symm, .inr ⟨rfl, rfl, fun j h1 h2 => HA.out j (by omega) h2⟩, rfl⟩
    · have hx2 : 0 ≤ x ∧ x ≤ 73048 := dayB_iff.1 hdx
      have HI := Lib.hid (isWorkday_ref x a n cap l w hdx HC.out hn hm)
      cases hwx : workB l x
      · rw [hwx] at HI
        go_wp2_with (first
          | (go_at_call 32; refine (isDay_ref _ _).mono ?_; rintro e w' ⟨rfl, rfl⟩)
          | (go_at_call 49; refine HI.out.mono ?_; rintro e w' ⟨rfl, rfl⟩))
        go_round
        case rel =>
          refine ⟨x + (-1), by go_num, by omega, by omega, ?_⟩
          intro j h1 h2
          by_cases e : j = x
          · subst e; exact hwx
          · exact HA.out j (by omega) h2
        case measure => simp [intOf]; omega
      · rw [hwx] at HI
        go_wp2_with (first
          | (go_at_call 32; refine (isDay_ref _ _).mono ?_; rintro e w' ⟨rfl, rfl⟩)
          | (go_at_call 49; refine HI.out.mono ?_; rintro e w' ⟨rfl, rfl⟩))
        go_ret
        exact ⟨x, 0, cret_int (seekV_ok x).symm, .inl ⟨rfl, hx2.1, hx1, hwx, HA.out⟩, rfl⟩
end Go.Proofs.Ytoaobblhmnikgaa
