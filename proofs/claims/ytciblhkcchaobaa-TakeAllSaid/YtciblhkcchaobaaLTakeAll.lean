/-
  The walk of the law TakeAll: it answers true at every input.
-/
import Derived.Test.YtciblhkcchaobaaARefA1
import Derived.Test.YtciblhkcchaobaaARefA2
import Derived.Test.YtciblhkcchaobaaASame
namespace Go.Proofs.Ytciblhkcchaobaa
open Go.RowKit

theorem takeAll_ref (g k : Int) (a : Option Addr) (n cap : Nat) (l : List Cl) (w : World) (hc : CameC w a l) (hn : l.length = n) (hE : claimE g k l = 0) :
    Calls Try.prog 14 #[.int .i64 g, .int .i64 k, .slice a n cap] w fun e w' => ∃ x c, e = .returned (.tuple #[.slice x n c, .int .i64 (min g k + lft g k l n)]) ∧ TkAt w' x n (takenL g k l n) ∧ Below w.heap.size w w' := by
  by_cases hkg : k < g
  · exact takeAll_ref1 g k a n cap l w hc hn hE hkg
  · exact takeAll_ref2 g k a n cap l w hc hn hE hkg
theorem same_none (w : World) : Calls Try.prog 16 #[.slice none 0 0, .slice none 0 0] w fun e w' => e = .returned (.bool true) ∧ ∃ q, w' = w.drewN q :=
  sameTaken_yes 0 0 [] none none 0 0 0 w (by omega) (.inl rfl) (.inl rfl)
set_option maxRecDepth 100000 in
set_option maxHeartbeats 1000000 in
theorem walk_takeAll (g : Int) (_ : (Lit.int .i64 g).wf = true) (k : Int) (_ : (Lit.int .i64 k).wf = true) (a : Option Addr) (n cap : Nat) (l : List Cl) {w : World} (hc : CameC w a l) (hn : l.length = n) (hm : n ≤ maxLen) :
    Calls Try.prog 4 #[.int .i64 g, .int .i64 k, .slice a n cap] w fun e w' => e = .returned (.bool true) ∧ Below w.heap.size w w' := by
  have HC := Lib.hid hc
  have HM := Lib.hid hm
  have HN := Lib.hid hn
  clear hm hc hn
  go_enter Try.func4, Try.ntmps4
  go_wp2_with fail
  refine (All_any g k a n cap l _ HC.out HN.out HM.out).mono ?_
  rintro e w1 ⟨v, net, er, rfl, ⟨rfl, hp⟩, hb⟩
  have HB1 := Lib.hid hb
  have HC1 := Lib.hid (HC.out.below hb)
  clear hb
  rcases hp with ⟨hE, rfl, rfl⟩ | ⟨hE, hnet, x, c, rfl, htk⟩
  · have hne : (claimE g k l == 0) = false := by simp [hE]
    have hne' : decide (claimE g k l = 0) = false := decide_eq_false hE
    go_wp2_with fail
    refine (checkClaims_ref g k a n cap l _ HC1.out HN.out HM.out).mono ?_
    rintro e w' ⟨rfl, h'⟩
    subst w'
    go_wp2_with fail
    refine (begun_any _).mono ?_
    rintro e w3 ⟨rfl, hb⟩
    have HB3 := Lib.hid (HB1.out.trans (hb.mono HB1.out.size))
    clear hb
    go_wp2_with fail
    refine (numberIs_same 0 _ _ (fun _ => rfl)).mono ?_
    rintro e w' ⟨rfl, h'⟩
    subst w'
    go_wp2_with fail
    refine (same_none _).mono ?_
    rintro e w' ⟨rfl, q, rfl⟩
    go_wp2_with fail
    go_ret
    exact ⟨rfl, ubelow_dN HB3.out _⟩
  · have HTK1 : Hid (TkAt w1 x n (takenL g k l n)) := by unfold Hid; rw [HN.out] at htk; exact htk
    have hn30 : n ≤ 30 := by have := (claimE_zero hE).1; rw [HN.out] at this; exact this
    have HNET : Hid (min g k + lft g k l n = net) := by unfold Hid; rw [hnet, HN.out]
    have HRF := Lib.hid (fun w hc => takeAll_ref g k a n cap l w hc HN.out hE)
    rw [HNET.out] at HRF
    have HEE := Lib.hid hE
    rw [hE, HN.out]
    clear htk hnet
    go_wp2_with fail
    refine (checkClaims_ref g k a n cap l _ HC1.out HN.out HM.out).mono ?_
    rintro e w' ⟨rfl, h'⟩
    subst w'
    rw [hE]
    clear hE
    go_wp2_with fail
    refine (HRF.out _ HC1.out).mono ?_
    rintro e w2 ⟨y, d, rfl, hty, hb⟩
    have HB2 := Lib.hid (HB1.out.trans (hb.mono HB1.out.size))
    have HTK2 := Lib.hid (HTK1.out.below hb)
    have HTY2 := Lib.hid hty
    clear hb hty
    go_wp2_with fail
    refine (begun_any _).mono ?_
    rintro e w3 ⟨rfl, hb⟩
    have HB3 := Lib.hid (HB2.out.trans (hb.mono HB2.out.size))
    have HTK3 := Lib.hid (HTK2.out.below hb)
    have HTY3 := Lib.hid (HTY2.out.below hb)
    clear hb
    go_wp2_with fail
    refine (numberIs_same net 0 _ (fun h => absurd rfl h)).mono ?_
    rintro e w' ⟨rfl, h'⟩
    subst w'
    go_wp2_with fail
    refine (sameTaken_yes g k l x y n _ _ _ hn30 HTK3.out HTY3.out).mono ?_
    rintro e w' ⟨rfl, q, rfl⟩
    go_wp2_with fail
    go_ret
    exact ⟨rfl, ubelow_dN HB3.out _⟩
end Go.Proofs.Ytciblhkcchaobaa
