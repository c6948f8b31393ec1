/-
  Promise K1: the walk of the reference's CheckTimes; K2: of There and MinutesOf.
-/
import Derived.Test.YtikkeidapgmcnaaUPairs
namespace Go.Proofs.Ytikkeidapgmcnaa
open Go.RowKit

/-- Is one of the first k times no later than the one ahead of it? -/
def sunkB (l : List Int) : Nat → Bool
  | 0 => false
  | k + 1 => sunkB l k || (decide (0 < k) && decide (nth l k ≤ nth l (k - 1)))
theorem sunkB_up {l : List Int} : ∀ {k : Nat}, sunkB l k = true ↔ ∃ j, j + 1 < k ∧ nth l (j + 1) ≤ nth l j
  | 0 => ⟨fun h => (by cases h), fun ⟨j, hj, _⟩ => by omega⟩
  | k + 1 => by
    rw [sunkB, Bool.or_eq_true, sunkB_up (k := k), Bool.and_eq_true, decide_eq_true_iff, decide_eq_true_iff]
    constructor
    · rintro (⟨j, hj, h⟩ | ⟨h0, h⟩)
      · exact ⟨j, by omega, h⟩
      · refine ⟨k - 1, by omega, ?_⟩
        rw [show k - 1 + 1 = k by omega]
        exact h
    · rintro ⟨j, hj, h⟩
      by_cases e : j + 1 = k
      · subst e
        exact .inr ⟨by omega, by rw [show j + 1 - 1 = j by omega]; exact h⟩
      · exact .inl ⟨j, by omega, h⟩
theorem sunkB_not (l : List Int) : upI l = !sunkB l l.length := by
  cases h : sunkB l l.length
  · refine upI_iff.2 fun j hj => ?_
    by_cases h' : nth l j < nth l (j + 1)
    · exact h'
    · have := sunkB_up.2 ⟨j, hj, Int.not_lt.1 h'⟩
      rw [h] at this
      cases this
  · obtain ⟨j, hj, h'⟩ := sunkB_up.1 h
    exact upI_not hj h'
theorem uvb {a b : Bool} (h : a = b) : Value.bool a = Value.bool b := by rw [h]
set_option maxRecDepth 100000 in
set_option maxHeartbeats 2000000 in
theorem checkTimes_ref (a : Option Addr) (n cap : Nat) (l : List Int) (w : World) (hc : Came w a l) (hn : l.length = n) (hm : n ≤ maxLen) :
    Calls Try.prog 11 #[.slice a n cap] w fun e w' => e = .returned (.int .i64 (timesE l)) ∧ Below w.heap.size w w' := by
  have hm' : n ≤ 9223372036854775807 := by unfold maxLen at hm; omega
  have HO := Lib.hid (fun h0 => hc.open hn h0)
  have HN := Lib.hid hn
  clear hm hc hn
  by_cases h40 : 40 < n
  · have HE := Lib.hid (timesE_many (l := l) (by rw [HN.out]; exact h40))
    have h40' : (40 : Int) < (n : Int) := by omega
    go_enter Try.func11, Try.ntmps11
    go_wp2_with fail
    go_ret
    exact ⟨uret_int HE.out.symm, Below.refl _ _⟩
  · have h40' : ¬ ((40 : Int) < (n : Int)) := by omega
    go_enter Try.func11, Try.ntmps11
    go_wp2_with fail
    go_loopw [3, 4] (fun sv i wr => ∃ k : Nat, k ≤ n ∧ i = .int .i64 k ∧ sv = .bool (sunkB l k) ∧ (∀ j, j < k → timeB (nth l j) = true) ∧ Below w.heap.size w wr) (fun _ i _ => n - (intOf i).toNat)
    case atStart => exact ⟨0, Nat.zero_le _, rfl, rfl, fun j hj => by omega, Below.refl _ _⟩
    case round =>
      obtain ⟨k, hk, rfl, rfl, hall, hb⟩ := hrel
      have HA := Lib.hid hall
      have HB := Lib.hid hb
      clear hall hb
      by_cases hlt : k < n
      · have hlt' : (k : Int) < (n : Int) := by omega
        obtain ⟨b, off, rfl, hcell⟩ := HO.out (by omega)
        have x0 := hcell wr HB.out k hlt
        have HX1 := Lib.hid (fun h => hcell wr HB.out (k - 1) h)
        clear hcell
        have HS : Hid (sunkB l (k + 1) = (sunkB l k || (decide (0 < k) && decide (nth l k ≤ nth l (k - 1))))) := rfl
        by_cases h1 : nth l k < 0
        · have HE := Lib.hid (timesE_range (l := l) (by rw [HN.out]; exact h40) (timesB_not (l := l) (j := k) (by rw [HN.out]; exact hlt) (timeB_no.2 (.inl h1))))
          go_wp2_with fail
          go_ret
          exact ⟨uret_int HE.out.symm, HB.out⟩
        · have h1B : decide (nth l k < 0) = false := decide_eq_false h1
          by_cases h2 : 1440 < nth l k
          · have HE := Lib.hid (timesE_range (l := l) (by rw [HN.out]; exact h40) (timesB_not (l := l) (j := k) (by rw [HN.out]; exact hlt) (timeB_no.2 (.inr h2))))
            go_wp2_with fail
            go_ret
            exact ⟨uret_int HE.out.symm, HB.out⟩
          · have h2B : decide (1440 < nth l k) = false := decide_eq_false h2
            have HAN : Hid (∀ j, j < k + 1 → timeB (nth l j) = true) := fun j hj => by
              by_cases e : j = k
              · subst e; exact timeB_iff.2 (by omega)
              · exact HA.out j (by omega)
            by_cases hs : sunkB l k = true
            · rw [hs] at HS
              rw [hs]
              go_wp2_with fail
              go_quiet (fail)
              go_wp2_with fail
              go_roundw
              case rel => exact ⟨k + 1, by omega, by go_num, uvb (by rw [HS.out]; simp [*]), HAN.out, ubelow_dN HB.out _⟩
              case measure => simp [intOf]; omega
            · have hs' : sunkB l k = false := by simpa using hs
              clear hs
              rw [hs'] at HS
              rw [hs']
              by_cases hk0 : 0 < k
              · have hk0' : (0 : Int) < (k : Int) := by omega
                have x1 := HX1.out (by omega)
                have hsub : (k : Int) - 1 = ((k - 1 : Nat) : Int) := by omega
                have hw1 : IntKind.i64.wrap ((k : Int) - 1) = ((k - 1 : Nat) : Int) := by rw [hsub]; exact IntWalk.i64_in _ (by omega)
                have hd0 : decide (0 < k) = true := decide_eq_true hk0
                have hge : (0 : Int) ≤ ((k - 1 : Nat) : Int) := by omega
                have hlt1 : ((k - 1 : Nat) : Int) < (n : Int) := by omega
                generalize hq : k - 1 = q at *
                clear hq
                by_cases h3 : nth l k ≤ nth l q
                · have h3B : decide (nth l k ≤ nth l q) = true := decide_eq_true h3
                  go_wp2_with fail
                  go_quiet (fail)
                  go_wp2_with fail
                  go_roundw
                  case rel => exact ⟨k + 1, by omega, by go_num, uvb (by rw [HS.out]; simp [*]), HAN.out, ubelow_dN HB.out _⟩
                  case measure => simp [intOf]; omega
                · have h3B : decide (nth l k ≤ nth l q) = false := decide_eq_false h3
                  go_wp2_with fail
                  go_quiet (fail)
                  go_wp2_with fail
                  go_roundw
                  case rel => exact ⟨k + 1, by omega, by go_num, uvb (by rw [HS.out]; simp [*]), HAN.out, ubelow_dN HB.out _⟩
                  case measure => simp [intOf]; omega
              · have hk00 : decide ((0 : Int) < (k : Int)) = false := decide_eq_false (by omega)
                have hd0 : decide (0 < k) = false := decide_eq_false hk0
                go_wp2_with fail
                go_quiet (fail)
                go_wp2_with fail
                go_roundw
                case rel => exact ⟨k + 1, by omega, by go_num, uvb (by rw [HS.out]; simp [*]), HAN.out, ubelow_dN HB.out _⟩
                case measure => simp [intOf]; omega
      · have hkn : k = n := by omega
        subst hkn
        have HTB := Lib.hid (timesB_of (l := l) (fun j hj => HA.out j (by rw [← HN.out]; exact hj)))
        have HUP : Hid (upI l = !sunkB l k) := by unfold Hid; rw [sunkB_not, HN.out]
        by_cases hs : sunkB l k = true
        · have HE := Lib.hid (timesE_state (l := l) (by rw [HN.out]; exact h40) HTB.out (by rw [HUP.out, hs]; rfl))
          rw [hs]
          go_wp2_with fail
          go_ret
          exact ⟨uret_int HE.out.symm, HB.out⟩
        · have hs' : sunkB l k = false := by simpa using hs
          clear hs
          rw [hs']
          by_cases hod : k % 2 = 1
          · have HE := Lib.hid (timesE_form (l := l) (by rw [HN.out]; exact h40) HTB.out (by rw [HUP.out, hs']; rfl) (by rw [HN.out]; exact hod))
            have hr1 : (k : Int) % 2 = 1 := by omega
            have hr2 : (k : Int).tmod 2 = 1 := by rw [Int.tmod_eq_emod_of_nonneg (by omega)]; omega
            clear hod
            go_wp2_with fail
            go_ret
            exact ⟨uret_int HE.out.symm, HB.out⟩
          · have HE := Lib.hid (timesE_ok (l := l) (by rw [HN.out]; exact h40) HTB.out (by rw [HUP.out, hs']; rfl) (by rw [HN.out]; exact hod))
            have hr1 : (k : Int) % 2 = 0 := by omega
            have hr2 : (k : Int).tmod 2 = 0 := by rw [Int.tmod_eq_emod_of_nonneg (by omega)]; omega
            clear hod
            go_wp2_with fail
            go_ret
            exact ⟨uret_int HE.out.symm, HB.out⟩
end Go.Proofs.Ytikkeidapgmcnaa
