/-
  Promise G1: when a table is right; walks of isBracket, of the search for one that is not, of rise, Check and of the reference's CheckTable.
-/
import Derived.Test.YtoingnhiipfnlaaDoorKRow
import Derived.Test.YtoingnhiipfnlaaDoorTIsName
namespace Go.Proofs.YtoingnhiipfnlaaDoor
open Go.RowKit

theorem kret_bool {a b : Bool} (h : a = b) : Ending.returned (.bool a) = .returned (.bool b) := by rw [h]
theorem kret_int {k : IntKind} {a b : Int} (h : a = b) : Ending.returned (.int k a) = .returned (.int k b) := by rw [h]
theorem kbelow_dN {B : Nat} {a w : World} (h : Below B a w) (k : Nat) : Below B a (w.drewN k) := h.trans ⟨rfl, rfl, rfl, Nat.le_refl _, fun _ _ => rfl⟩
/-- Is a bracket right? -/
def bkB (r : Bk) : Bool := decide (0 ≤ r.frm ∧ r.frm ≤ 1000000000000 ∧ 0 ≤ r.rate ∧ r.rate ≤ 10000)
theorem bkB_iff {r : Bk} : bkB r = true ↔ 0 ≤ r.frm ∧ r.frm ≤ 1000000000000 ∧ 0 ≤ r.rate ∧ r.rate ≤ 10000 := by unfold bkB; exact decide_eq_true_iff
set_option maxHeartbeats 1000000 in
theorem isBracket_any (f r : Int) (w : World) :
    Calls Tryd.prog 93 #[.agg #[.int .i64 f, .int .i64 r]] w fun e w' => e = .returned (.bool (bkB ⟨f, r⟩)) ∧ w' = w.alloc (.cells #[.int .i64 f, .int .i64 r] 114) := by
  by_cases h0 : 0 ≤ f
  · by_cases h1 : f ≤ 1000000000000
    · have HM : Hid (monB f = true) := decide_eq_true (by omega)
      by_cases h2 : 0 ≤ r
      · by_cases h3 : r ≤ 10000
        · have HR : Hid (bkB ⟨f, r⟩ = true) := decide_eq_true ⟨h0, h1, h2, h3⟩
          go_enter Tryd.func93, Tryd.ntmps93
          go_wp2_with (go_at_call 59; refine (isMoney_any _ _).mono ?_; rintro e w' ⟨rfl, h'⟩; subst w'; try rw [HM.out])
          go_ret
          exact ⟨kret_bool (by rw [HR.out]; try simp), rfl⟩
        · have HR : Hid (bkB ⟨f, r⟩ = false) := decide_eq_false (fun h => h3 h.2.2.2)
          have hd : decide (r ≤ 10000) = false := decide_eq_false h3
          go_enter Tryd.func93, Tryd.ntmps93
          go_wp2_with (go_at_call 59; refine (isMoney_any _ _).mono ?_; rintro e w' ⟨rfl, h'⟩; subst w'; try rw [HM.out])
          go_ret
          exact ⟨kret_bool (by rw [HR.out]; try simp), rfl⟩
      · have HR : Hid (bkB ⟨f, r⟩ = false) := decide_eq_false (fun h => h2 h.2.2.1)
        have hd : decide (0 ≤ r) = false := decide_eq_false h2
        go_enter Tryd.func93, Tryd.ntmps93
        go_wp2_with (go_at_call 59; refine (isMoney_any _ _).mono ?_; rintro e w' ⟨rfl, h'⟩; subst w'; try rw [HM.out])
        go_ret
        exact ⟨kret_bool (by rw [HR.out]; try simp), rfl⟩
    · have HM : Hid (monB f = false) := decide_eq_false (by omega)
      have HR : Hid (bkB ⟨f, r⟩ = false) := decide_eq_false (fun h => h1 h.2.1)
      go_enter Tryd.func93, Tryd.ntmps93
      go_wp2_with (go_at_call 59; refine (isMoney_any _ _).mono ?_; rintro e w' ⟨rfl, h'⟩; subst w'; try rw [HM.out])
      go_ret
      exact ⟨kret_bool (by rw [HR.out]; try simp), rfl⟩
  · have HM : Hid (True) := trivial
    have HR : Hid (bkB ⟨f, r⟩ = false) := decide_eq_false (fun h => h0 h.1)
    have hd : decide (0 ≤ f) = false := decide_eq_false h0
    go_enter Tryd.func93, Tryd.ntmps93
    go_wp2_with (go_at_call 59; refine (isMoney_any _ _).mono ?_; rintro e w' ⟨rfl, h'⟩; subst w'; try rw [HM.out])
    go_ret
    exact ⟨kret_bool (by rw [HR.out]; try simp), rfl⟩
set_option maxHeartbeats 1000000 in
theorem notBk_any (f r : Int) (w : World) :
    Calls Tryd.prog 92 #[.agg #[.int .i64 f, .int .i64 r]] w fun e w' => e = .returned (.bool (!bkB ⟨f, r⟩)) ∧ w' = (w.alloc (.cells #[.int .i64 f, .int .i64 r] 114)).alloc (.cells #[.int .i64 f, .int .i64 r] 114) := by
  go_enter Tryd.func92, Tryd.ntmps92
  go_wp2_with fail
  refine (isBracket_any _ _ _).mono ?_
  rintro e w' ⟨rfl, h'⟩
  subst w'
  go_wp2_with fail
  go_ret
  exact ⟨rfl, rfl⟩
/-- Are all brackets right? -/
def bksB (l : List Bk) : Bool := l.all bkB
theorem bksB_nth {l : List Bk} (h : bksB l = true) {j : Nat} (hj : j < l.length) : bkB (bnth l j) = true := by
  have : bnth l j ∈ l := by
    unfold bnth
    rw [List.getD_eq_getElem?_getD, List.getElem?_eq_getElem hj]
    exact List.getElem_mem hj
  exact List.all_eq_true.1 h _ this
theorem bksB_of {l : List Bk} (h : ∀ j, j < l.length → bkB (bnth l j) = true) : bksB l = true := by
  unfold bksB
  rw [List.all_eq_true]
  intro x hx
  obtain ⟨j, hj, rfl⟩ := List.mem_iff_getElem.1 hx
  have := h j hj
  simpa [bnth, List.getD_eq_getElem?_getD, hj] using this
theorem bksB_not {l : List Bk} {j : Nat} (hj : j < l.length) (h : bkB (bnth l j) = false) : bksB l = false := by
  rw [Bool.eq_false_iff]
  intro e
  rw [bksB_nth e hj] at h
  cases h
set_option maxRecDepth 100000 in
set_option maxHeartbeats 1000000 in
theorem index_any (a : Option Addr) (n cap : Nat) (l : List Bk) (w : World) (hc : CameB w a l) (hn : l.length = n) (hm : n ≤ maxLen) :
    Calls Tryd.prog 107 #[.slice a n cap, .func (.func 92) #[] #[]] w fun e w' => ∃ i : Int, e = .returned (.int .i64 i) ∧ -1 ≤ i ∧ (i = -1 ↔ bksB l = true) ∧ Below w.heap.size w w' := by
  have hm' : n ≤ 9223372036854775807 := by unfold maxLen at hm; omega
  have HO := Lib.hid (fun h0 => hc.open hn h0)
  clear hm hc
  go_enter Tryd.func107, Tryd.ntmps107
  go_wp2_with fail
  go_loopw [8] (fun i wr => ∃ k : Nat, k ≤ n ∧ i = .int .i64 k ∧ (∀ j, j < k → bkB (bnth l j) = true) ∧ Below w.heap.size w wr) (fun i _ => n - (intOf i).toNat)
  case atStart => exact ⟨0, Nat.zero_le _, rfl, fun j hj => by omega, Below.refl _ _⟩
  case round =>
    obtain ⟨k, hk, rfl, hall, hb⟩ := hrel
    have HA := Lib.hid hall
    have HB := Lib.hid hb
    clear hall hb
    by_cases hlt : k < n
    · have hlt' : (k : Int) < (n : Int) := by omega
      obtain ⟨b, off, rfl, hcell⟩ := HO.out (by omega)
      obtain ⟨x0, x1⟩ := hcell wr HB.out k hlt
      clear hcell
      cases hr : bkB (bnth l k)
      · have HE := Lib.hid (bksB_not (l := l) (j := k) (by omega) hr)
        go_wp2_with fail
        refine (notBk_any _ _ _).mono ?_
        rintro e w' ⟨rfl, h'⟩
        subst w'
        have hr' : bkB ⟨(bnth l k).frm, (bnth l k).rate⟩ = false := hr
        rw [hr']
        go_wp2_with fail
        go_ret
        exact ⟨k, rfl, by omega, ⟨fun h => by omega, fun h => by rw [HE.out] at h; cases h⟩, (HB.out.alloc HB.out.size _).alloc (by have := HB.out.size; simp; omega) _⟩
      · go_wp2_with fail
        refine (notBk_any _ _ _).mono ?_
        rintro e w' ⟨rfl, h'⟩
        subst w'
        have hr' : bkB ⟨(bnth l k).frm, (bnth l k).rate⟩ = true := hr
        rw [hr']
        go_wp2_with fail
        go_roundw
        case rel =>
          refine ⟨k + 1, by omega, by go_num, ?_, (HB.out.alloc HB.out.size _).alloc (by have := HB.out.size; simp; omega) _⟩
          intro j hj
          by_cases e : j = k
          · subst e; exact hr
          · exact HA.out j (by omega)
        case measure => simp [intOf]; omega
    · have hkn : k = n := by omega
      subst hkn
      have HL := Lib.hid (bksB_of (l := l) (fun j hj => HA.out j (by omega)))
      go_wp2_with fail
      go_ret
      exact ⟨-1, rfl, by omega, ⟨fun _ => HL.out, fun _ => rfl⟩, HB.out⟩
set_option maxHeartbeats 1000000 in
theorem contains_any (a : Option Addr) (n cap : Nat) (l : List Bk) (w : World) (hc : CameB w a l) (hn : l.length = n) (hm : n ≤ maxLen) :
    Calls Tryd.prog 91 #[.slice a n cap, .func (.func 92) #[] #[]] w fun e w' => e = .returned (.bool (!bksB l)) ∧ Below w.heap.size w w' := by
  have HC := Lib.hid hc
  have HM := Lib.hid hm
  clear hc hm
  go_enter Tryd.func91, Tryd.ntmps91
  go_wp2_with fail
  refine (index_any a n cap l _ HC.out hn HM.out).mono ?_
  rintro e w1 ⟨i, rfl, hi, hall, hb⟩
  have HB := Lib.hid hb
  clear hb
  have HR : Hid ((!bksB l) = decide (0 ≤ i)) := by
    unfold Hid
    cases h : bksB l
    · rw [h] at hall
      have : i ≠ -1 := fun e => by have := hall.1 e; cases this
      simp; omega
    · obtain rfl := hall.2 h
      simp
  clear hall
  go_wp2_with fail
  go_ret
  exact ⟨kret_bool (by rw [HR.out]), HB.out⟩
/-- Do the Froms rise, from the first on? -/
def upB (l : List Bk) : Bool := (List.range (l.length - 1)).all fun j => decide ((bnth l j).frm < (bnth l (j + 1)).frm)
theorem upB_iff {l : List Bk} : upB l = true ↔ ∀ j, j + 1 < l.length → (bnth l j).frm < (bnth l (j + 1)).frm := by
  unfold upB
  rw [List.all_eq_true]
  constructor
  · intro h j hj
    exact of_decide_eq_true (h j (List.mem_range.2 (by omega)))
  · intro h j hj
    exact decide_eq_true (h j (by have := List.mem_range.1 hj; omega))
theorem upB_not {l : List Bk} {j : Nat} (hj : j + 1 < l.length) (h : (bnth l (j + 1)).frm ≤ (bnth l j).frm) : upB l = false := by
  rw [Bool.eq_false_iff]
  intro e
  have := upB_iff.1 e j hj
  omega
set_option maxRecDepth 100000 in
set_option maxHeartbeats 1000000 in
theorem rise_any (a : Option Addr) (n cap : Nat) (l : List Bk) (w : World) (hc : CameB w a l) (hn : l.length = n) (hm : n ≤ maxLen) :
    Calls Tryd.prog 94 #[.slice a n cap] w fun e w' => e = .returned (.bool (upB l)) ∧ Below w.heap.size w w' := by
  have hm' : n ≤ 9223372036854775807 := by unfold maxLen at hm; omega
  have HO := Lib.hid (fun h0 => hc.open hn h0)
  clear hm hc
  go_enter Tryd.func94, Tryd.ntmps94
  go_wp2_with fail
  go_loopw [3] (fun i wr => ∃ r : Nat, (r + 1 ≤ n ∨ r = 0) ∧ i = .int .i64 ((r : Int) + 1) ∧ Below w.heap.size w wr ∧ ∀ j, j < r → (bnth l j).frm < (bnth l (j + 1)).frm) (fun i _ => n - (intOf i).toNat)
  case atStart => exact ⟨0, .inr rfl, rfl, Below.refl _ _, fun j hj => by omega⟩
  case round =>
    obtain ⟨r, hrk, rfl, hb, hall⟩ := hrel
    have HA := Lib.hid hall
    have HB := Lib.hid hb
    clear hall hb
    by_cases hlt : r + 1 < n
    · have hlt' : (r : Int) + 1 < (n : Int) := by omega
      have hlt0 : (r : Int) < (n : Int) := by omega
      obtain ⟨b, off, rfl, hcell⟩ := HO.out (by omega)
      obtain ⟨x0, _⟩ := hcell _ HB.out r (by omega)
      obtain ⟨y0, _⟩ := hcell _ HB.out (r + 1) (by omega)
      clear hcell
      have hsub : (r : Int) + 1 - 1 = (r : Int) := by omega
      have htn : ((r : Int) + 1).toNat = r + 1 := by omega
      by_cases hr : (bnth l (r + 1)).frm ≤ (bnth l r).frm
      · have HF := Lib.hid (upB_not (l := l) (j := r) (by omega) hr)
        go_wp2_with fail
        go_quiet (fail)
        go_wp2_with fail
        go_ret
        exact ⟨kret_bool HF.out.symm, kbelow_dN HB.out _⟩
      · have hrB : decide ((bnth l (r + 1)).frm ≤ (bnth l r).frm) = false := decide_eq_false hr
        go_wp2_with fail
        go_quiet (fail)
        go_wp2_with fail
        go_roundw
        case rel =>
          refine ⟨r + 1, .inl (by omega), by go_num, kbelow_dN HB.out _, ?_⟩
          intro j hj
          by_cases e : j = r
          · subst e; omega
          · exact HA.out j (by omega)
        case measure => simp [intOf]; omega
    · have hnl : ¬ ((r : Int) + 1 < (n : Int)) := by omega
      have HF := Lib.hid (upB_iff (l := l).2 (fun j hj => HA.out j (by omega)))
      go_wp2_with fail
      go_ret
      exact ⟨kret_bool HF.out.symm, HB.out⟩
end Go.Proofs.YtoingnhiipfnlaaDoor
