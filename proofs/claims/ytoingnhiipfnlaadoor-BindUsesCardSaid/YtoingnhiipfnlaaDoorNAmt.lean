/-
  Promise H1: amounts with names: how they lie in memory; walks of the two searches of checkAmounts.
-/
import Derived.Test.YtoingnhiipfnlaaDoorKTbl
namespace Go.Proofs.YtoingnhiipfnlaaDoor
open Go.RowKit

/-- An amount with a name. -/
structure Am where
  name : ByteArray
  mon : Int
def anth (l : List Am) (j : Nat) : Am := l.getD j ⟨⟨#[]⟩, 0⟩
/-- An amount's two cells. -/
def AmIs (w : World) (b o : Nat) (r : Am) : Prop := w.cell? ⟨b, o, none⟩ = some (.string r.name) ∧ w.cell? ⟨b, o + 1, none⟩ = some (.int .i64 r.mon)
theorem AmIs.below {B : Nat} {w w' : World} {b o : Nat} {r : Am} (h : AmIs w b o r) (hb : Below B w w') (hB : b < B) : AmIs w' b o r :=
  ⟨(hb.cell (p := ⟨b, o, none⟩) hB).trans h.1, (hb.cell (p := ⟨b, o + 1, none⟩) hB).trans h.2⟩
/-- In the world w the cells from (b, off) on hold the amounts l. -/
def AAt (w : World) (b off : Nat) (l : List Am) : Prop := b < w.heap.size ∧ ∀ j, j < l.length → AmIs w b (off + j * 2) (anth l j)
theorem AAt.below {B : Nat} {w w' : World} {b off : Nat} {l : List Am} (h : AAt w b off l) (hb : Below B w w') (hB : b < B) : AAt w' b off l :=
  ⟨Nat.lt_of_lt_of_le h.1 hb.size, fun j hj => (h.2 j hj).below hb hB⟩
/-- A slice of amounts that came in. -/
def CameA (w : World) (a : Option Addr) (l : List Am) : Prop := l.length = 0 ∨ ∃ b off, a = some ⟨b, off, none⟩ ∧ AAt w b off l
theorem CameA.below {w w' : World} {a : Option Addr} {l : List Am} (h : CameA w a l) (hb : Below w.heap.size w w') : CameA w' a l := by
  rcases h with h | ⟨b, off, rfl, h⟩
  · exact .inl h
  · exact .inr ⟨b, off, rfl, h.below hb h.1⟩
theorem CameA.open {w : World} {a : Option Addr} {l : List Am} (h : CameA w a l) {n : Nat} (hn : l.length = n) (h0 : 0 < n) : ∃ b off, a = some ⟨b, off, none⟩ ∧ ∀ w', Below w.heap.size w w' → ∀ k, k < n → AmIs w' b (off + k * 2) (anth l k) := by
  rcases h with h | ⟨b, off, rfl, h⟩
  · omega
  · exact ⟨b, off, rfl, fun w' hb k hk => AmIs.below (h.2 k (by omega)) hb h.1⟩
theorem anth_mem {l : List Am} {j : Nat} (hj : j < l.length) : anth l j ∈ l := by
  unfold anth
  rw [List.getD_eq_getElem?_getD, List.getElem?_eq_getElem hj]
  exact List.getElem_mem hj
theorem all_nth {P : Am → Bool} {l : List Am} (h : l.all P = true) {j : Nat} (hj : j < l.length) : P (anth l j) = true := List.all_eq_true.1 h _ (anth_mem hj)
theorem all_of {P : Am → Bool} {l : List Am} (h : ∀ j, j < l.length → P (anth l j) = true) : l.all P = true := by
  rw [List.all_eq_true]
  intro x hx
  obtain ⟨j, hj, rfl⟩ := List.mem_iff_getElem.1 hx
  have := h j hj
  simpa [anth, List.getD_eq_getElem?_getD, hj] using this
theorem all_not {P : Am → Bool} {l : List Am} {j : Nat} (hj : j < l.length) (h : P (anth l j) = false) : l.all P = false := by
  rw [Bool.eq_false_iff]
  intro e
  rw [all_nth e hj] at h
  cases h
/-- Is an amount's name one? Is it money? -/
def anB (r : Am) : Bool := decide (NameP r.name)
def amB (r : Am) : Bool := monB r.mon
/-- Are all names names, all amounts money? -/
def ansB (l : List Am) : Bool := l.all anB
def amsB (l : List Am) : Bool := l.all amB
set_option maxHeartbeats 1000000 in
theorem notName_any (s : ByteArray) (m : Int) (w : World) :
    Calls Tryd.prog 56 #[.agg #[.string s, .int .i64 m]] w fun e w' => e = .returned (.bool (!anB ⟨s, m⟩)) ∧ Below w.heap.size w w' := by
  have HB0 := Lib.hid (kbelow_box w (.cells #[.string s, .int .i64 m] 104))
  go_enter Tryd.func56, Tryd.ntmps56
  go_wp2_with fail
  refine (IsName_any s _).mono ?_
  rintro e w1 ⟨b, rfl, hb, hbel⟩
  have HB1 := Lib.hid (HB0.out.trans (hbel.mono HB0.out.size))
  have HE : Hid (anB ⟨s, m⟩ = b) := by
    unfold Hid anB
    cases b
    · exact decide_eq_false (fun h => by have := hb.2 h; cases this)
    · exact decide_eq_true (hb.1 rfl)
  clear hb hbel
  go_wp2_with fail
  go_ret
  exact ⟨kret_bool (by rw [HE.out]), HB1.out⟩
set_option maxHeartbeats 1000000 in
theorem notMon_any (s : ByteArray) (m : Int) (w : World) :
    Calls Tryd.prog 58 #[.agg #[.string s, .int .i64 m]] w fun e w' => e = .returned (.bool (!amB ⟨s, m⟩)) ∧ Below w.heap.size w w' := by
  have HB0 := Lib.hid (kbelow_box w (.cells #[.string s, .int .i64 m] 104))
  go_enter Tryd.func58, Tryd.ntmps58
  go_wp2_with fail
  refine (isMoney_any _ _).mono ?_
  rintro e w1 ⟨rfl, h'⟩
  subst w1
  go_wp2_with fail
  go_ret
  exact ⟨rfl, HB0.out⟩
set_option maxRecDepth 100000 in
set_option maxHeartbeats 1000000 in
theorem indexNames (a : Option Addr) (n cap : Nat) (l : List Am) (w : World) (hc : CameA w a l) (hn : l.length = n) (hm : n ≤ maxLen) :
    Calls Tryd.prog 88 #[.slice a n cap, .func (.func 56) #[] #[]] w fun e w' => ∃ i : Int, e = .returned (.int .i64 i) ∧ -1 ≤ i ∧ (i = -1 ↔ ansB l = true) ∧ Below w.heap.size w w' := by
  have hm' : n ≤ 9223372036854775807 := by unfold maxLen at hm; omega
  have HO := Lib.hid (fun h0 => hc.open hn h0)
  clear hm hc
  go_enter Tryd.func88, Tryd.ntmps88
  go_wp2_with fail
  go_loopw [8] (fun i wr => ∃ k : Nat, k ≤ n ∧ i = .int .i64 k ∧ (∀ j, j < k → anB (anth l j) = true) ∧ Below w.heap.size w wr) (fun i _ => n - (intOf i).toNat)
  case atStart => exact ⟨0, Nat.zero_le _, rfl, fun j hj => by omega, Below.refl _ _⟩
  case round =>
    obtain ⟨k, hk, rfl, hall, hb⟩ := hrel
    have HA := Lib.hid hall
    have HB := Lib.hid hb
    clear hall hb
    by_cases hlt : k < n
    · have hlt' : (k : Int) < (n : Int) := by omega
      obtain ⟨b, off, rfl, hcell⟩ := HO.out (by omega)
      obtain ⟨x0, x1⟩ := hcell wr HB.out k hlt
      clear hcell
      cases hr : anB (anth l k)
      · have HE : Hid (ansB l = false) := Lib.hid (all_not (l := l) (j := k) (by omega) hr)
        go_wp2_with fail
        refine (notName_any _ _ _).mono ?_
        rintro e w1 ⟨rfl, hb1⟩
        have HB1 := Lib.hid (HB.out.trans (hb1.mono HB.out.size))
        have hr' : anB ⟨(anth l k).name, (anth l k).mon⟩ = false := hr
        rw [hr']
        clear hb1 x0 x1
        go_wp2_with fail
        go_ret
        exact ⟨k, rfl, by omega, ⟨fun h => by omega, fun h => by rw [HE.out] at h; cases h⟩, HB1.out⟩
      · go_wp2_with fail
        refine (notName_any _ _ _).mono ?_
        rintro e w1 ⟨rfl, hb1⟩
        have HB1 := Lib.hid (HB.out.trans (hb1.mono HB.out.size))
        have hr' : anB ⟨(anth l k).name, (anth l k).mon⟩ = true := hr
        rw [hr']
        clear hb1 x0 x1
        go_wp2_with fail
        go_roundw
        case rel =>
          refine ⟨k + 1, by omega, by go_num, ?_, HB1.out⟩
          intro j hj
          by_cases e : j = k
          · subst e; exact hr
          · exact HA.out j (by omega)
        case measure => simp [intOf]; omega
    · have hkn : k = n := by omega
      subst hkn
      have HL : Hid (ansB l = true) := Lib.hid (all_of (l := l) (fun j hj => HA.out j (by omega)))
      go_wp2_with fail
      go_ret
      exact ⟨-1, rfl, by omega, ⟨fun _ => HL.out, fun _ => rfl⟩, HB.out⟩
set_option maxHeartbeats 1000000 in
theorem containsNames (a : Option Addr) (n cap : Nat) (l : List Am) (w : World) (hc : CameA w a l) (hn : l.length = n) (hm : n ≤ maxLen) :
    Calls Tryd.prog 55 #[.slice a n cap, .func (.func 56) #[] #[]] w fun e w' => e = .returned (.bool (!ansB l)) ∧ Below w.heap.size w w' := by
  have HC := Lib.hid hc
  have HM := Lib.hid hm
  clear hc hm
  go_enter Tryd.func55, Tryd.ntmps55
  go_wp2_with fail
  refine (indexNames a n cap l _ HC.out hn HM.out).mono ?_
  rintro e w1 ⟨i, rfl, hi, hall, hb⟩
  have HB := Lib.hid hb
  clear hb
  have HR : Hid ((!ansB l) = decide (0 ≤ i)) := by
    unfold Hid
    cases h : ansB l
    · rw [h] at hall
      have : i ≠ -1 := fun e => by have := hall.1 e; cases this
      simp; omega
    · obtain rfl := hall.2 h
      simp
  clear hall
  go_wp2_with fail
  go_ret
  exact ⟨kret_bool (by rw [HR.out]), HB.out⟩
set_option maxRecDepth 100000 in
set_option maxHeartbeats 1000000 in
theorem indexMoney (a : Option Addr) (n cap : Nat) (l : List Am) (w : World) (hc : CameA w a l) (hn : l.length = n) (hm : n ≤ maxLen) :
    Calls Tryd.prog 88 #[.slice a n cap, .func (.func 58) #[] #[]] w fun e w' => ∃ i : Int, e = .returned (.int .i64 i) ∧ -1 ≤ i ∧ (i = -1 ↔ amsB l = true) ∧ Below w.heap.size w w' := by
  have hm' : n ≤ 9223372036854775807 := by unfold maxLen at hm; omega
  have HO := Lib.hid (fun h0 => hc.open hn h0)
  clear hm hc
  go_enter Tryd.func88, Tryd.ntmps88
  go_wp2_with fail
  go_loopw [8] (fun i wr => ∃ k : Nat, k ≤ n ∧ i = .int .i64 k ∧ (∀ j, j < k → amB (anth l j) = true) ∧ Below w.heap.size w wr) (fun i _ => n - (intOf i).toNat)
  case atStart => exact ⟨0, Nat.zero_le _, rfl, fun j hj => by omega, Below.refl _ _⟩
  case round =>
    obtain ⟨k, hk, rfl, hall, hb⟩ := hrel
    have HA := Lib.hid hall
    have HB := Lib.hid hb
    clear hall hb
    by_cases hlt : k < n
    · have hlt' : (k : Int) < (n : Int) := by omega
      obtain ⟨b, off, rfl, hcell⟩ := HO.out (by omega)
      obtain ⟨x0, x1⟩ := hcell wr HB.out k hlt
      clear hcell
      cases hr : amB (anth l k)
      · have HE : Hid (amsB l = false) := Lib.hid (all_not (l := l) (j := k) (by omega) hr)
        go_wp2_with fail
        refine (notMon_any _ _ _).mono ?_
        rintro e w1 ⟨rfl, hb1⟩
        have HB1 := Lib.hid (HB.out.trans (hb1.mono HB.out.size))
        have hr' : amB ⟨(anth l k).name, (anth l k).mon⟩ = false := hr
        rw [hr']
        clear hb1 x0 x1
        go_wp2_with fail
        go_ret
        exact ⟨k, rfl, by omega, ⟨fun h => by omega, fun h => by rw [HE.out] at h; cases h⟩, HB1.out⟩
      · go_wp2_with fail
        refine (notMon_any _ _ _).mono ?_
        rintro e w1 ⟨rfl, hb1⟩
        have HB1 := Lib.hid (HB.out.trans (hb1.mono HB.out.size))
        have hr' : amB ⟨(anth l k).name, (anth l k).mon⟩ = true := hr
        rw [hr']
        clear hb1 x0 x1
        go_wp2_with fail
        go_roundw
        case rel =>
          refine ⟨k + 1, by omega, by go_num, ?_, HB1.out⟩
          intro j hj
          by_cases e : j = k
          · subst e; exact hr
          · exact HA.out j (by omega)
        case measure => simp [intOf]; omega
    · have hkn : k = n := by omega
      subst hkn
      have HL : Hid (amsB l = true) := Lib.hid (all_of (l := l) (fun j hj => HA.out j (by omega)))
      go_wp2_with fail
      go_ret
      exact ⟨-1, rfl, by omega, ⟨fun _ => HL.out, fun _ => rfl⟩, HB.out⟩
set_option maxHeartbeats 1000000 in
theorem containsMoney (a : Option Addr) (n cap : Nat) (l : List Am) (w : World) (hc : CameA w a l) (hn : l.length = n) (hm : n ≤ maxLen) :
    Calls Tryd.prog 55 #[.slice a n cap, .func (.func 58) #[] #[]] w fun e w' => e = .returned (.bool (!amsB l)) ∧ Below w.heap.size w w' := by
  have HC := Lib.hid hc
  have HM := Lib.hid hm
  clear hc hm
  go_enter Tryd.func55, Tryd.ntmps55
  go_wp2_with fail
  refine (indexMoney a n cap l _ HC.out hn HM.out).mono ?_
  rintro e w1 ⟨i, rfl, hi, hall, hb⟩
  have HB := Lib.hid hb
  clear hb
  have HR : Hid ((!amsB l) = decide (0 ≤ i)) := by
    unfold Hid
    cases h : amsB l
    · rw [h] at hall
      have : i ≠ -1 := fun e => by have := hall.1 e; cases this
      simp; omega
    · obtain rfl := hall.2 h
      simp
  clear hall
  go_wp2_with fail
  go_ret
  exact ⟨kret_bool (by rw [HR.out]), HB.out⟩
end Go.Proofs.YtoingnhiipfnlaaDoor
