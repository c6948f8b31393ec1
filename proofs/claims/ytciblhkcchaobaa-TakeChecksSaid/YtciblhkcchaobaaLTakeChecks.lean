/-
  The walks of the laws TakeChecks and TakeLeast: each answers true at every input.
-/
import Derived.Test.YtciblhkcchaobaaARef
import Derived.Test.YtciblhkcchaobaaALaw
namespace Go.Proofs.Ytciblhkcchaobaa
open Go.RowKit

set_option maxRecDepth 100000 in
set_option maxHeartbeats 1000000 in
theorem walk_takeChecks (g : Int) (_ : (Lit.int .i64 g).wf = true) (k : Int) (_ : (Lit.int .i64 k).wf = true) (a : Option Addr) (n cap : Nat) (l : List Cl) {w : World} (hc : CameC w a l) (hn : l.length = n) (hm : n ≤ maxLen) :
    Calls Try.prog 3 #[.int .i64 g, .int .i64 k, .slice a n cap] w fun e w' => e = .returned (.bool true) ∧ Below w.heap.size w w' := by
  have HC := Lib.hid hc
  have HM := Lib.hid hm
  have HN := Lib.hid hn
  clear hm hc hn
  go_enter Try.func3, Try.ntmps3
  go_wp2_with fail
  refine (begun_any _).mono ?_
  rintro e w1 ⟨rfl, hb⟩
  have HB1 := Lib.hid hb
  have HC1 := Lib.hid (HC.out.below hb)
  clear hb
  go_wp2_with fail
  refine (Check_any g k a n cap l _ HC1.out HN.out HM.out).mono ?_
  rintro e w2 ⟨rfl, hb⟩
  have HB2 := Lib.hid (HB1.out.trans (hb.mono HB1.out.size))
  have HC2 := Lib.hid (HC1.out.below hb)
  clear hb
  go_wp2_with fail
  refine (checkClaims_ref g k a n cap l _ HC2.out HN.out HM.out).mono ?_
  rintro e w' ⟨rfl, h'⟩
  subst w'
  go_wp2_with fail
  go_ret
  exact ⟨uret_bool (by simp), HB2.out⟩
set_option maxRecDepth 100000 in
set_option maxHeartbeats 1000000 in
theorem walk_takeLeast (k : Int) (_ : (Lit.int .i64 k).wf = true) (a : Option Addr) (n cap : Nat) (l : List Cl) {w : World} (hc : CameC w a l) (hn : l.length = n) (hm : n ≤ maxLen) :
    Calls Try.prog 5 #[.int .i64 k, .slice a n cap] w fun e w' => e = .returned (.bool true) ∧ Below w.heap.size w w' := by
  have HC := Lib.hid hc
  have HM := Lib.hid hm
  have HN := Lib.hid hn
  clear hm hc hn
  go_enter Try.func5, Try.ntmps5
  go_wp2_with fail
  refine (Least_any k a n cap l _ HC.out HN.out HM.out).mono ?_
  rintro e w1 ⟨rfl, hb⟩
  have HB1 := Lib.hid hb
  have HC1 := Lib.hid (HC.out.below hb)
  clear hb
  go_wp2_with fail
  refine (checkClaims_ref 0 k a n cap l _ HC1.out HN.out HM.out).mono ?_
  rintro e w' ⟨rfl, h'⟩
  subst w'
  by_cases hE : claimE 0 k l = 0
  · have HL1 := Lib.hid (fun h2 => leastE_none (k := k) (l := l) hE h2)
    have HL2 := Lib.hid (fun h2 h3 => leastE_over (k := k) (l := l) hE h2 h3)
    have HL3 := Lib.hid (fun h2 h3 => leastE_ok (k := k) (l := l) hE h2 h3)
    rw [HN.out] at HL1 HL2 HL3
    have HE := Lib.hid hE
    have hab := asked_bd (fine_of hE) n (by rw [HN.out]; omega)
    obtain ⟨z1, _, ⟨k0, k1⟩, _⟩ := claimE_zero hE
    have hn30 : n ≤ 30 := by rw [← HN.out]; exact z1
    have HAS := Lib.hid (fun w hc => asked_ref 0 k a n cap l w hc HN.out hE)
    rw [hE]
    clear hE z1
    generalize asked l n = S at *
    have hS : S ≤ 60000000000000 := by omega
    by_cases h0 : S = 0
    · obtain ⟨e1, e2⟩ := HL1.out h0
      subst h0
      rw [e1, e2]
      clear HL1 HL2 HL3 e1 e2
      go_wp2_with fail
      refine (HAS.out _ HC1.out).mono ?_
      rintro e w2 ⟨rfl, hb⟩
      have HBQ := Lib.hid (HB1.out.trans (hb.mono HB1.out.size))
      clear hb
      go_wp2_with fail
      refine (begun_any _).mono ?_
      rintro e w5 ⟨rfl, hb⟩
      have HB5 := Lib.hid (HBQ.out.trans (hb.mono HBQ.out.size))
      clear hb
      go_wp2_with fail
      refine (numberIs_same (0) (0) _ (fun _ => rfl)).mono ?_
      rintro e w' ⟨rfl, h'⟩
      subst w'
      go_wp2_with fail
      go_ret
      exact ⟨rfl, HB5.out⟩
    · have h0B : (S == 0) = false := by simp [h0]
      have h0P : 0 < S := by omega
      by_cases h1 : 1000000000000 < k + S
      · obtain ⟨e1, e2⟩ := HL2.out h0 h1
        rw [e1, e2]
        clear HL1 HL2 HL3 e1 e2
        have h1' : 1000000000000 < S + k := by omega
        go_wp2_with fail
        refine (HAS.out _ HC1.out).mono ?_
        rintro e w2 ⟨rfl, hb⟩
        have HBQ := Lib.hid (HB1.out.trans (hb.mono HB1.out.size))
        clear hb
        go_wp2_with fail
        refine (begun_any _).mono ?_
        rintro e w5 ⟨rfl, hb⟩
        have HB5 := Lib.hid (HBQ.out.trans (hb.mono HBQ.out.size))
        clear hb
        go_wp2_with fail
        refine (numberIs_err (S + k) 3 _ (by decide)).mono ?_
        rintro e w' ⟨rfl, h'⟩
        subst w'
        go_wp2_with fail
        go_ret
        exact ⟨rfl, HB5.out⟩
      · obtain ⟨e1, e2⟩ := HL3.out h0 h1
        rw [e1, e2, Int.add_comm k S]
        clear HL1 HL2 HL3 e1 e2
        have h1' : ¬ 1000000000000 < S + k := by omega
        go_wp2_with fail
        refine (HAS.out _ HC1.out).mono ?_
        rintro e w2 ⟨rfl, hb⟩
        have HBQ := Lib.hid (HB1.out.trans (hb.mono HB1.out.size))
        clear hb
        go_wp2_with fail
        refine (begun_any _).mono ?_
        rintro e w5 ⟨rfl, hb⟩
        have HB5 := Lib.hid (HBQ.out.trans (hb.mono HBQ.out.size))
        clear hb
        go_wp2_with fail
        refine (numberIs_same (S + k) (0) _ (fun h => absurd rfl h)).mono ?_
        rintro e w' ⟨rfl, h'⟩
        subst w'
        go_wp2_with fail
        go_ret
        exact ⟨rfl, HB5.out⟩
  · have hne : (claimE 0 k l == 0) = false := by simp [hE]
    have hne' : decide (claimE 0 k l = 0) = false := decide_eq_false hE
    obtain ⟨e1, e2⟩ := leastE_bad hE
    rw [e1, e2]
    clear e1 e2
    have HBQ := HB1
    go_wp2_with fail
    refine (begun_any _).mono ?_
    rintro e w5 ⟨rfl, hb⟩
    have HB5 := Lib.hid (HBQ.out.trans (hb.mono HBQ.out.size))
    clear hb
    go_wp2_with fail
    refine (numberIs_same (0) (claimE 0 k l) _ (fun _ => rfl)).mono ?_
    rintro e w' ⟨rfl, h'⟩
    subst w'
    go_wp2_with fail
    go_ret
    exact ⟨rfl, HB5.out⟩
end Go.Proofs.Ytciblhkcchaobaa
