/-
  The walk of the law TotalTurns: it answers true at every input.
-/
import Derived.Test.YtfamnlaignjhkaaOTurn
namespace Go.Proofs.Ytfamnlaignjhkaa
open Go.RowKit Go.Sort

theorem twoE_turn {l m : List Tt} (h : twoE l m ≠ 0) : twoE m l ≠ 0 := fun h' => by
  obtain ⟨h1, h2⟩ := twoE_ok h'
  apply h
  unfold twoE
  rw [if_pos h2, h1]
theorem addRet_turn {l m : List Tt} {w w' : World} {v v' : Value} {er er' : Int} (h : AddRet l m m w v er) (h' : AddRet m l l w' v' er') (h0 : er ≠ 0) : er' ≠ 0 := by
  rcases h with ⟨h1, _, _⟩ | ⟨h1, h2⟩
  · rcases h' with ⟨h1', h2', _⟩ | ⟨h1', _⟩
    · rw [h2']; exact h1'
    · exact absurd h1' (twoE_turn h1)
  · rcases h' with ⟨h1', h2', _⟩ | ⟨h1', h2'⟩
    · rw [h2']; exact h1'
    · rw [sums_turn] at h2
      rw [← (h2.det h2').1]
      exact h0
/-- Where it is right: both lists are alike, and right. -/
theorem addRet_ok {l m : List Tt} {w w' : World} {v v' : Value} {er' : Int} (h : AddRet l m m w v 0) (h' : AddRet m l l w' v' er') :
    er' = 0 ∧ totE l = 0 ∧ totE m = 0 ∧ ∃ X x c x' c', v = .slice x X.length c ∧ v' = .slice x' X.length c' ∧ CameO w x X ∧ CameO w' x' X ∧ X.length ≤ 400 ∧ totE X = 0 ∧ ListOf (sumsOf (l ++ m)) X ∧ upT X = true := by
  rcases h with ⟨h1, h2, _⟩ | ⟨h1, h2⟩
  · exact absurd h2.symm h1
  · obtain ⟨hl, hm⟩ := twoE_ok h1
    rcases h2 with ⟨_, e, _⟩ | ⟨_, _, _, _, e, _⟩ | ⟨ha, X, hX, h4, hup, _, x, c, rfl, hc⟩
    · cases e
    · cases e
    · have hr := made_right hl hm hX ha hup h4
      rcases h' with ⟨h1', _, _⟩ | ⟨h1', h2'⟩
      · exact absurd h1 (twoE_turn h1')
      · rw [sums_turn] at h2'
        have hret : ListRet (sumsOf (l ++ m)) w (.slice x X.length c) 0 := .inr (.inr ⟨ha, X, hX, h4, hup, rfl, x, c, rfl, hc⟩)
        obtain ⟨e, L, x1, c1, x2, c2, e1, e2, _, h6, _⟩ := hret.det h2'
        rcases h2' with ⟨h1', _, _⟩ | ⟨_, _, _, _, e', _⟩ | ⟨_, X', hX', _, hup', e', x', c', rfl, hc'⟩
        · exact absurd ha h1'
        · rw [e'] at e; cases e
        · have ee : X' = X := up_unique hup' hup (list_perm hX' hX)
          subst ee
          exact ⟨e', hl, hm, X', x, c, x', c', rfl, rfl, hc, hc', h4, hr, hX, hup⟩
theorem lessRet_ok {l m X : List Tt} {w : World} {v : Value} {er : Int} (hl : totE l = 0) (hm : totE m = 0) (hX : totE X = 0) (h : ListOf (sumsOf (l ++ m)) X) (hu : upT X = true) (hr : AddRet X m (negL m) w v er) :
    er = 0 ∧ ∃ x c, v = .slice x l.length c ∧ CameO w x l := by
  obtain ⟨h1, h2⟩ := less_add hl h hu
  rcases hr with ⟨h3, _, _⟩ | ⟨_, h3⟩
  · exact absurd (by unfold twoE; rw [if_pos hX, hm]) h3
  · rcases h3 with ⟨h4, _, _⟩ | ⟨_, Y, hY, h5, _⟩ | ⟨_, Y, hY, h5, hup, e, x, c, rfl, hc⟩
    · exact absurd h2 h4
    · have := (list_perm hY h1).length_eq
      have := (totE_ok hl).2.1
      omega
    · have ee : Y = l := up_unique hup (totE_ok hl).2.2.1 (list_perm hY h1)
      subst ee
      exact ⟨e, x, c, rfl, hc⟩
set_option maxRecDepth 100000 in
set_option maxHeartbeats 2000000 in
theorem walk_totalTurns (a : Option Addr) (n cap : Nat) (l : List Tt) {w : World} (hc : CameO w a l) (hn : l.length = n) (hm : n ≤ maxLen) (_ : NFit l) (b : Option Addr) (n' cap' : Nat) (l' : List Tt) (hc' : CameO w b l') (hn' : l'.length = n') (hm' : n' ≤ maxLen) (_ : NFit l') :
    Calls Try.prog 8 #[.slice a n cap, .slice b n' cap'] w fun e w' => e = .returned (.bool true) ∧ Go.RowKit.Below w.heap.size w w' := by
  have HC := Lib.hid hc
  have HM := Lib.hid hm
  have HN := Lib.hid hn
  have HC' := Lib.hid hc'
  have HM' := Lib.hid hm'
  have HN' := Lib.hid hn'
  clear hm hc hn hm' hc' hn'
  go_enter Try.func8, Try.ntmps8
  go_wp2_with fail
  refine (totalBegun_any _).mono ?_
  rintro e w1 ⟨rfl, hb⟩
  have HB1 := Lib.hid hb
  clear hb
  go_wp2_with fail
  refine (Add_any a n cap l b n' cap' l' _ (HC.out.below HB1.out) HN.out HM.out (HC'.out.below HB1.out) HN'.out HM'.out).mono ?_
  rintro e w2 ⟨v, er, rfl, hret, hb⟩
  have HR := Lib.hid hret
  have HB2 := Lib.hid (HB1.out.trans (hb.mono HB1.out.size))
  clear hret hb
  go_wp2_with fail
  refine (Add_any b n' cap' l' a n cap l _ (HC'.out.below HB2.out) HN'.out HM'.out (HC.out.below HB2.out) HN.out HM.out).mono ?_
  rintro e w3 ⟨v2, er2, rfl, hret, hb⟩
  have HR2 := Lib.hid hret
  have HB3 := Lib.hid (HB2.out.trans (hb.mono HB2.out.size))
  have HB23 := Lib.hid hb
  clear hret hb
  by_cases h0 : er = 0
  · subst h0
    obtain ⟨rfl, hl, hm, X, x, c, x', c', rfl, rfl, hcx, hcx', h4, hX, hXl, hXu⟩ := addRet_ok HR.out HR2.out
    have HCX := Lib.hid (hcx.below HB23.out)
    have HCX' := Lib.hid hcx'
    have HX4 := Lib.hid h4
    have HTX := Lib.hid hX
    have HLR := Lib.hid (fun (w : World) (v : Value) (er : Int) => lessRet_ok (w := w) (v := v) (er := er) hl hm hX hXl hXu)
    have HL4 := Lib.hid (totE_ok hl).2.1
    clear hl hm hcx hcx' h4 hX hXl hXu HR HR2
    obtain ⟨nx, hnx⟩ : ∃ m, X.length = m := ⟨_, rfl⟩
    rw [hnx]
    have HNX := Lib.hid hnx
    have HMX : Hid (nx ≤ maxLen) := Lib.hid (by have := HX4.out; unfold maxLen; omega)
    clear hnx
    go_wp2_with fail
    refine (Less_any x nx c X b n' cap' l' _ HCX.out HNX.out HMX.out (HC'.out.below HB3.out) HN'.out HM'.out).mono ?_
    rintro e w4 ⟨v3, er3, rfl, hret, hb⟩
    obtain ⟨rfl, y, d, rfl, hcy⟩ := HLR.out _ _ _ hret
    rw [HN.out]
    have HCY := Lib.hid hcy
    have HB4 := Lib.hid (HB3.out.trans (hb.mono HB3.out.size))
    have HCX4 := Lib.hid (HCX.out.below hb)
    have HCX4' := Lib.hid (HCX'.out.below hb)
    clear hret hb hcy HLR
    go_wp2_with fail
    refine (sameTotals_yes x x' nx c c' X _ HCX4.out HCX4'.out HNX.out (by have := HX4.out; have := HNX.out; omega)).mono ?_
    rintro e w5 ⟨rfl, hb⟩
    have HB5 := Lib.hid (HB4.out.trans (hb.mono HB4.out.size))
    have HCX5 := Lib.hid (HCX4.out.below hb)
    have HCY5 := Lib.hid (HCY.out.below hb)
    clear hb
    go_wp2_with fail
    refine (Check_any x nx c X _ HCX5.out HNX.out HMX.out).mono ?_
    rintro e w6 ⟨rfl, hb⟩
    rw [HTX.out]
    have HB6 := Lib.hid (HB5.out.trans (hb.mono HB5.out.size))
    have HCY6 := Lib.hid (HCY5.out.below hb)
    clear hb
    go_wp2_with fail
    refine (sameTotals_yes y a n d cap l _ HCY6.out (HC.out.below HB6.out) HN.out (by have := HL4.out; have := HN.out; omega)).mono ?_
    rintro e w7 ⟨rfl, hb⟩
    have HB7 := Lib.hid (HB6.out.trans (hb.mono HB6.out.size))
    clear hb
    go_wp2_with fail
    go_ret
    exact ⟨oret_bool (by simp), HB7.out⟩
  · have h2 := addRet_turn HR.out HR2.out h0
    have h0' : (er != 0) = true := by simp [h0]
    have h2' : (er2 != 0) = true := by simp [h2]
    clear h0 h2
    go_wp2_with fail
    go_ret
    exact ⟨oret_bool (by simp), HB3.out⟩
end Go.Proofs.Ytfamnlaignjhkaa
