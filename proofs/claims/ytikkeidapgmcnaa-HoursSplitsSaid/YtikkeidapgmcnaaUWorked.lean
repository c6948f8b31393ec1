/-
  Promise K2: the walk of Worked; and what must be in any case (hoursBegun).
-/
import Derived.Test.YtikkeidapgmcnaaUWithin
import Derived.Test.YtikkeidapgmcnaaUSplit
import Derived.Test.YtikkeidapgmcnaaMRoundU
namespace Go.Proofs.Ytikkeidapgmcnaa
open Go.RowKit

/-- What is wrong with times, a step and a way; and the minutes in steps. -/
def workedE (l : List Int) (s way : Int) : Int := if wayB way = false then 7 else if s < 1 ∨ 60 < s then 3 else timesE l
def workedN (l : List Int) (s way : Int) : Int := if workedE l s way = 0 then rd (wsum l 0 1440 (l.length / 2)) s way * s else 0
theorem workedE_way {l : List Int} {s way : Int} (h : wayB way = false) : workedE l s way = 7 := by unfold workedE; rw [if_pos h]
theorem workedE_step {l : List Int} {s way : Int} (h : wayB way = true) (h2 : s < 1 ∨ 60 < s) : workedE l s way = 3 := by unfold workedE; rw [if_neg (by rw [h]; simp), if_pos h2]
theorem workedE_times {l : List Int} {s way : Int} (h : wayB way = true) (h2 : ¬ (s < 1 ∨ 60 < s)) : workedE l s way = timesE l := by unfold workedE; rw [if_neg (by rw [h]; simp), if_neg h2]
theorem workedN_bad {l : List Int} {s way : Int} (h : workedE l s way ≠ 0) : workedN l s way = 0 := by unfold workedN; rw [if_neg h]
theorem workedN_ok {l : List Int} {s way : Int} (h : workedE l s way = 0) : workedN l s way = rd (wsum l 0 1440 (l.length / 2)) s way * s := by unfold workedN; rw [if_pos h]
theorem hid_eq {α : Type} {a b : α} (h : Hid (a = b)) : a = b := h
set_option maxRecDepth 100000 in
set_option maxHeartbeats 1000000 in
theorem Worked_any (a : Option Addr) (n cap : Nat) (l : List Int) (s way : Int) (w : World) (hc : Came w a l) (hn : l.length = n) (hm : n ≤ maxLen) :
    Calls Try.prog 13 #[.slice a n cap, .int .i64 s, .int .i64 way] w fun e w' => e = .returned (.tuple #[.int .i64 (workedN l s way), .int .i64 (workedE l s way)]) ∧ Below w.heap.size w w' := by
  have HC := Lib.hid hc
  have HM := Lib.hid hm
  have HN := Lib.hid hn
  clear hm hc hn
  go_enter Try.func13, Try.ntmps13
  go_wp2_with fail
  refine (round_any 0 1 way _).mono ?_
  rintro e w1 ⟨rfl, q, rfl⟩
  cases hwB : wayB way
  · have HE := Lib.hid (workedE_way (l := l) (s := s) hwB)
    have HZ := Lib.hid (workedN_bad (l := l) (s := s) (way := way) (by rw [HE.out]; decide))
    obtain ⟨r1, r2⟩ := rv_kind (n := 0) (d := 1) hwB
    rw [r1, r2]
    go_wp2_with fail
    go_ret2
    exact ⟨uret22 HZ.out.symm HE.out.symm, ubelow_dN (Below.refl _ _) _⟩
  · obtain ⟨r1, r2⟩ := rv_ok (n := 0) (d := 1) hwB (by decide)
    rw [r1, r2]
    clear r1 r2
    generalize rd 0 1 way = z0
    by_cases hs1 : s < 1
    · have HE := Lib.hid (workedE_step (l := l) hwB (.inl hs1))
      have HZ := Lib.hid (workedN_bad (l := l) (s := s) (way := way) (by rw [HE.out]; decide))
      go_wp2_with fail
      go_ret2
      exact ⟨uret22 HZ.out.symm HE.out.symm, ubelow_dN (Below.refl _ _) _⟩
    · have hs1B : decide (s < 1) = false := decide_eq_false hs1
      by_cases hs2 : 60 < s
      · have HE := Lib.hid (workedE_step (l := l) hwB (.inr hs2))
        have HZ := Lib.hid (workedN_bad (l := l) (s := s) (way := way) (by rw [HE.out]; decide))
        go_wp2_with fail
        go_ret2
        exact ⟨uret22 HZ.out.symm HE.out.symm, ubelow_dN (Below.refl _ _) _⟩
      · have hs2B : decide (60 < s) = false := decide_eq_false hs2
        have HE := Lib.hid (workedE_times (l := l) hwB (s := s) (by omega))
        have HOK : Hid (¬ ((0 : Int) < 0 ∨ (1440 : Int) < 0 ∨ (1440 : Int) < 1440)) := by unfold Hid; omega
        go_wp2_with fail
        refine (Within_any a n cap l 0 1440 (w.drewN q) HC.out HN.out HM.out).mono ?_
        rintro e w2 ⟨rfl, hb2⟩
        have HB2 := Lib.hid ((ubelow_dN (Below.refl w.heap.size w) q).trans hb2)
        clear hb2
        by_cases hte : timesE l = 0
        · have hE0 := withinE_times (l := l) HOK.out
          have hN0 := withinN_ok (l := l) HOK.out hte
          have HW := Lib.hid (workedN_ok (l := l) (s := s) (way := way) (by rw [HE.out, hte]))
          have HE0 : Hid (workedE l s way = 0) := by unfold Hid; rw [HE.out, hte]
          rw [hE0, hN0, hte]
          clear hE0 hN0
          have hbd := wsum_bd l (f := 0) (t := 1440) (by omega) (by omega) (l.length / 2)
          have hl40 := (timesE_zero hte).1
          have hl20 : 1440 * ((l.length / 2 : Nat) : Int) ≤ 28800 := by omega
          generalize wsum l 0 1440 (l.length / 2) = M at *
          have hM1 : M ≤ 28800 := by omega
          obtain ⟨r1, r2⟩ := rv_ok (n := M) (d := s) hwB (decide_eq_true (by omega))
          have hnear := rd_near M s way (by omega)
          have hrb := rd_bound M s way (by omega) (by omega) (by omega)
          clear hl20 hl40 hte
          go_wp2_with fail
          refine (round_any M s way _).mono ?_
          rintro e w3 ⟨rfl, q3, rfl⟩
          rw [r1, r2]
          clear r1 r2
          generalize rd M s way = R at *
          have hw1 : IntKind.i64.wrap (R * s) = R * s := IntWalk.i64_in _ (by omega)
          go_wp2_with fail
          go_ret2
          exact ⟨uret22 HW.out.symm HE0.out.symm, ubelow_dN HB2.out _⟩
        · have hE0 := withinE_times (l := l) HOK.out
          have hN0 := withinN_times (l := l) HOK.out hte
          have HZ := Lib.hid (workedN_bad (l := l) (s := s) (way := way) (by rw [HE.out]; exact hte))
          rw [hE0, hN0]
          clear hE0 hN0
          have hne : (timesE l != 0) = true := by simp [hte]
          have hne' : decide (timesE l = 0) = false := decide_eq_false hte
          go_wp2_with fail
          go_ret2
          exact ⟨uret22 HZ.out.symm HE.out.symm, HB2.out⟩
end Go.Proofs.Ytikkeidapgmcnaa
