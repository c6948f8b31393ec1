/-
  Promise H1: what is wrong with amounts: the walks of checkAmounts, the program's and the reference's.
-/
import Derived.Test.YtoingnhiipfnlaaDoorNRise
import Derived.Test.YtoingnhiipfnlaaDoorMPart
namespace Go.Proofs.YtoingnhiipfnlaaDoor
open Go.RowKit Go.Sort

/-- What is wrong with amounts. -/
def amsE (l : List Am) : Int := if ansB l = false then 1 else if amsB l = false then 3 else if upN (fun j => (anth l j).name) l.length = false then 6 else 0
theorem amsE_bd (l : List Am) : 0 ≤ amsE l ∧ amsE l ≤ 6 := by
  unfold amsE
  (repeat' split) <;> omega
set_option maxRecDepth 100000 in
set_option maxHeartbeats 1000000 in
theorem checkAmounts_any (a : Option Addr) (n cap : Nat) (l : List Am) (w : World) (hc : CameA w a l) (hn : l.length = n) (hm : n ≤ maxLen) :
    Calls Tryd.prog 26 #[.slice a n cap] w fun e w' => e = .returned (.int .i64 (amsE l)) ∧ Below w.heap.size w w' := by
  have HC := Lib.hid hc
  have HM := Lib.hid hm
  have HE : Hid (amsE l = if ansB l = false then 1 else if amsB l = false then 3 else if upN (fun j => (anth l j).name) n = false then 6 else 0) := by unfold Hid amsE; rw [hn]
  clear hm hc
  go_enter Tryd.func26, Tryd.ntmps26
  go_wp2_with fail
  refine (containsNames a n cap l _ HC.out hn HM.out).mono ?_
  rintro e w1 ⟨rfl, hb1⟩
  have HB1 := Lib.hid hb1
  clear hb1
  cases h1 : ansB l
  · rw [h1] at HE
    go_wp2_with fail
    go_ret
    exact ⟨kret_int HE.out.symm, HB1.out⟩
  · go_wp2_with fail
    refine (containsMoney a n cap l _ (HC.out.below HB1.out) hn HM.out).mono ?_
    rintro e w2 ⟨rfl, hb2⟩
    have HB2 := Lib.hid (HB1.out.trans (hb2.mono HB1.out.size))
    clear hb2
    cases h2 : amsB l
    · rw [h1, h2] at HE
      go_wp2_with fail
      go_ret
      exact ⟨kret_int HE.out.symm, HB2.out⟩
    · go_wp2_with fail
      refine (riseA_any a n cap l _ (HC.out.below HB2.out) hn HM.out).mono ?_
      rintro e w3 ⟨rfl, hb3⟩
      have HB3 := Lib.hid (HB2.out.trans (hb3.mono HB2.out.size))
      clear hb3
      rw [h1, h2] at HE
      cases h3 : upN (fun j => (anth l j).name) n
      · rw [h3] at HE
        go_wp2_with fail
        go_ret
        exact ⟨kret_int HE.out.symm, HB3.out⟩
      · rw [h3] at HE
        go_wp2_with fail
        go_ret
        exact ⟨kret_int HE.out.symm, HB3.out⟩
/-- Is one of the first k amounts no money? Does one of the first k names not rise? -/
def farK (l : List Am) (k : Nat) : Bool := (List.range k).any fun j => !amB (anth l j)
def twiceK (f : Nat → ByteArray) (k : Nat) : Bool := (List.range k).any fun j => decide (0 < j) && leS (f j) (f (j - 1))
theorem farK_succ (l : List Am) (k : Nat) : farK l (k + 1) = (farK l k || !amB (anth l k)) := by simp [farK, List.range_succ]
theorem twiceK_succ (f : Nat → ByteArray) (k : Nat) : twiceK f (k + 1) = (twiceK f k || (decide (0 < k) && leS (f k) (f (k - 1)))) := by simp [twiceK, List.range_succ]
theorem farK_all {l : List Am} {n : Nat} (hn : l.length = n) : farK l n = !amsB l := by
  subst hn
  cases h : amsB l
  · cases e : farK l l.length
    · exfalso
      have : amsB l = true := all_of (P := amB) (l := l) (fun j hj => by
        unfold farK at e
        rw [List.any_eq_false] at e
        have := e j (List.mem_range.2 hj)
        simpa using this)
      rw [h] at this; cases this
    · rfl
  · show farK l l.length = false
    unfold farK
    rw [List.any_eq_false]
    intro j hj
    have := all_nth (P := amB) (l := l) h (List.mem_range.1 hj)
    simp [this]
theorem twiceK_all (f : Nat → ByteArray) (n : Nat) : twiceK f n = !upN f n := by
  cases h : upN f n
  · cases e : twiceK f n
    · exfalso
      have : upN f n = true := upN_iff.2 (fun j hj => by
        unfold twiceK at e
        rw [List.any_eq_false] at e
        have := e (j + 1) (List.mem_range.2 hj)
        simpa using this)
      rw [h] at this; cases this
    · rfl
  · show twiceK f n = false
    unfold twiceK
    rw [List.any_eq_false]
    intro j hj
    have hj' := List.mem_range.1 hj
    by_cases h0 : j = 0
    · simp [h0]
    · have := upN_iff.1 h (j - 1) (by omega)
      rw [show j - 1 + 1 = j by omega] at this
      simp [this]
end Go.Proofs.YtoingnhiipfnlaaDoor
