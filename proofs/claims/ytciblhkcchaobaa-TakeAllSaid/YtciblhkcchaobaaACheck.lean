/-
  Promise L1: walks of Check, of its closures, and of the search for a claim that is wrong.
-/
import Derived.Test.YtciblhkcchaobaaABase
namespace Go.Proofs.Ytciblhkcchaobaa
open Go.RowKit

theorem isNone_any (n : Int) (w : World) : Calls Try.prog 22 #[.int .i64 n] w fun e w' => e = .returned (.bool (!cmB n)) ∧ w' = w := by
  by_cases h1 : n < 0
  · have H : Hid (cmB n = false) := cmB_no.2 (.inl h1)
    go_enter Try.func22, Try.ntmps22
    go_wp2
    go_ret
    exact ⟨uret_bool (by rw [H.out]; try simp <;> omega), rfl⟩
  · have hd : decide (n < 0) = false := decide_eq_false h1
    by_cases h2 : 1000000000000 < n
    · have H : Hid (cmB n = false) := cmB_no.2 (.inr h2)
      go_enter Try.func22, Try.ntmps22
      go_wp2
      go_ret
      exact ⟨uret_bool (by rw [H.out]; try simp <;> omega), rfl⟩
    · have H : Hid (cmB n = true) := cmB_iff.2 (by omega)
      have hd2 : decide (1000000000000 < n) = false := decide_eq_false h2
      go_enter Try.func22, Try.ntmps22
      go_wp2
      go_ret
      exact ⟨uret_bool (by rw [H.out]; try simp <;> omega), rfl⟩
set_option maxHeartbeats 1000000 in
theorem notCl_any (c : Cl) (g : Nat) (w : World) (hg : w.cell? ⟨g, 0, none⟩ = some (.func (.func 22) #[] #[])) :
    Calls Try.prog 24 #[.agg #[.int .i64 c.want, .int .i64 c.owed, .int .i64 c.cap, .int .i64 c.year], .pointer (some ⟨g, 0, none⟩)] w fun e w' => e = .returned (.bool (!clB c)) ∧ w' = w.alloc (.cells #[.int .i64 c.want, .int .i64 c.owed, .int .i64 c.cap, .int .i64 c.year] 40) := by
  obtain ⟨a, b, cc, d⟩ := c
  have hlt := clt_of_cell hg
  simp only at hlt
  have hg' : (w.alloc (.cells #[.int .i64 a, .int .i64 b, .int .i64 cc, .int .i64 d] 40)).cell? ⟨g, 0, none⟩ = some (.func (.func 22) #[] #[]) := by rw [World.cell?_alloc_past (w := w) _ g 0 hlt]; exact hg
  clear hg
  cases h1 : cmB a
  · have H : Hid (clB ⟨a, b, cc, d⟩ = false) := by unfold Hid clB; simp [h1]
    go_enter Try.func24, Try.ntmps24
    go_wp2_with (go_at_call 22; refine (isNone_any _ _).mono ?_; rintro e w' ⟨rfl, h'⟩; subst w'; rw [h1])
    go_ret
    exact ⟨uret_bool (by rw [H.out]; try simp), rfl⟩
  · cases h2 : cmB b
    · have H : Hid (clB ⟨a, b, cc, d⟩ = false) := by unfold Hid clB; simp [h2]
      go_enter Try.func24, Try.ntmps24
      go_wp2_with (go_at_call 22; refine (isNone_any _ _).mono ?_; rintro e w' ⟨rfl, h'⟩; subst w'; first | rw [h1] | rw [h2])
      go_ret
      exact ⟨uret_bool (by rw [H.out]; try simp), rfl⟩
    · have H : Hid (clB ⟨a, b, cc, d⟩ = cmB d) := by unfold Hid clB; simp [h1, h2]
      go_enter Try.func24, Try.ntmps24
      go_wp2_with (go_at_call 22; refine (isNone_any _ _).mono ?_; rintro e w' ⟨rfl, h'⟩; subst w'; first | rw [h1] | rw [h2] | skip)
      go_ret
      exact ⟨uret_bool (by rw [H.out]; try simp), rfl⟩
theorem capOver_any (c : Cl) (w : World) :
    Calls Try.prog 25 #[.agg #[.int .i64 c.want, .int .i64 c.owed, .int .i64 c.cap, .int .i64 c.year]] w fun e w' => e = .returned (.bool (!capB c)) ∧ w' = w.alloc (.cells #[.int .i64 c.want, .int .i64 c.owed, .int .i64 c.cap, .int .i64 c.year] 40) := by
  obtain ⟨a, b, cc, d⟩ := c
  have H : Hid ((!capB ⟨a, b, cc, d⟩) = decide (1000000000000 < cc)) := by
    unfold Hid capB
    by_cases h : cc ≤ 1000000000000
    · simp [h]
    · simp [h]; omega
  go_enter Try.func25, Try.ntmps25
  go_wp2
  go_ret
  exact ⟨uret_bool (by rw [H.out]), rfl⟩
set_option maxRecDepth 100000 in
set_option maxHeartbeats 1000000 in
theorem index_cap (a : Option Addr) (n cap : Nat) (l : List Cl)  (w : World) (hc : CameC w a l) (hn : l.length = n) (hm : n ≤ maxLen)  :
    Calls Try.prog 27 #[.slice a n cap, .func (.func 25) #[] #[]] w fun e w' => ∃ i : Int, e = .returned (.int .i64 i) ∧ -1 ≤ i ∧ (i = -1 ↔ capsB l = true) ∧ Below w.heap.size w w' := by
  have hm' : n ≤ 9223372036854775807 := by unfold maxLen at hm; omega
  have HO := Lib.hid (fun h0 => hc.open hn h0)
  clear hm hc
  go_enter Try.func27, Try.ntmps27
  go_wp2_with fail
  go_loopw [8] (fun i wr => ∃ k : Nat, k ≤ n ∧ i = .int .i64 k ∧ (∀ j, j < k → capB (cnth l j) = true) ∧ Below w.heap.size w wr) (fun i _ => n - (intOf i).toNat)
  case atStart => exact ⟨0, Nat.zero_le _, rfl, fun j hj => by omega, Below.refl _ _⟩
  case round =>
    obtain ⟨k, hk, rfl, hall, hb⟩ := hrel
    have HA := Lib.hid hall
    have HB := Lib.hid hb
    clear hall hb
    by_cases hlt : k < n
    · have hlt' : (k : Int) < (n : Int) := by omega
      obtain ⟨b, off, rfl, hcell⟩ := HO.out (by omega)
      obtain ⟨x0, x1, x2, x3⟩ := hcell wr HB.out k hlt
      clear hcell
      cases hr : capB (cnth l k)
      · have HE := Lib.hid (show capsB l = false from all_not_cnth (l := l) (j := k) (by omega) hr)
        go_wp2_with fail
        refine (capOver_any (cnth l k) _).mono ?_
        rintro e w' ⟨rfl, h'⟩
        subst w'
        rw [hr]
        go_wp2_with fail
        go_ret
        exact ⟨k, rfl, by omega, ⟨fun h => by omega, fun h => by rw [HE.out] at h; cases h⟩, (HB.out.alloc HB.out.size _)⟩
      · go_wp2_with fail
        refine (capOver_any (cnth l k) _).mono ?_
        rintro e w' ⟨rfl, h'⟩
        subst w'
        rw [hr]
        go_wp2_with fail
        go_roundw
        case rel =>
          refine ⟨k + 1, by omega, by go_num, ?_, (HB.out.alloc HB.out.size _)⟩
          intro j hj
          by_cases e : j = k
          · subst e; exact hr
          · exact HA.out j (by omega)
        case measure => simp [intOf]; omega
    · have hkn : k = n := by omega
      subst hkn
      have HL := Lib.hid (show capsB l = true from all_of_cnth (l := l) (fun j hj => HA.out j (by omega)))
      go_wp2_with fail
      go_ret
      exact ⟨-1, rfl, by omega, ⟨fun _ => HL.out, fun _ => rfl⟩, HB.out⟩
set_option maxHeartbeats 1000000 in
theorem contains_cap (a : Option Addr) (n cap : Nat) (l : List Cl)  (w : World) (hc : CameC w a l) (hn : l.length = n) (hm : n ≤ maxLen)  :
    Calls Try.prog 23 #[.slice a n cap, .func (.func 25) #[] #[]] w fun e w' => e = .returned (.bool (!capsB l)) ∧ Below w.heap.size w w' := by
  have HC := Lib.hid hc
  have HM := Lib.hid hm
  clear hc hm
  go_enter Try.func23, Try.ntmps23
  go_wp2_with fail
  refine (index_cap a n cap l  _ HC.out hn HM.out ).mono ?_
  rintro e w1 ⟨i, rfl, hi, hall, hb⟩
  have HB := Lib.hid hb
  clear hb
  have HR : Hid ((!capsB l) = decide (0 ≤ i)) := by
    unfold Hid
    cases h : capsB l
    · rw [h] at hall
      have : i ≠ -1 := fun e => by have := hall.1 e; cases this
      simp; omega
    · obtain rfl := hall.2 h
      simp
  clear hall
  go_wp2_with fail
  go_ret
  exact ⟨uret_bool (by rw [HR.out]), HB.out⟩
set_option maxRecDepth 100000 in
set_option maxHeartbeats 1000000 in
theorem index_cl (a : Option Addr) (n cap : Nat) (l : List Cl) (g : Nat) (w : World) (hc : CameC w a l) (hn : l.length = n) (hm : n ≤ maxLen) (hg : w.cell? ⟨g, 0, none⟩ = some (.func (.func 22) #[] #[])) :
    Calls Try.prog 27 #[.slice a n cap, .func (.func 24) #[] #[.pointer (some ⟨g, 0, none⟩)]] w fun e w' => ∃ i : Int, e = .returned (.int .i64 i) ∧ -1 ≤ i ∧ (i = -1 ↔ clsB l = true) ∧ Below w.heap.size w w' := by
  have hm' : n ≤ 9223372036854775807 := by unfold maxLen at hm; omega
  have HO := Lib.hid (fun h0 => hc.open hn h0)
  clear hm hc
  go_enter Try.func27, Try.ntmps27
  go_wp2_with fail
  go_loopw [8] (fun i wr => ∃ k : Nat, k ≤ n ∧ i = .int .i64 k ∧ (∀ j, j < k → clB (cnth l j) = true) ∧ Below w.heap.size w wr) (fun i _ => n - (intOf i).toNat)
  case atStart => exact ⟨0, Nat.zero_le _, rfl, fun j hj => by omega, Below.refl _ _⟩
  case round =>
    obtain ⟨k, hk, rfl, hall, hb⟩ := hrel
    have HA := Lib.hid hall
    have HB := Lib.hid hb
    clear hall hb
    by_cases hlt : k < n
    · have hlt' : (k : Int) < (n : Int) := by omega
      obtain ⟨b, off, rfl, hcell⟩ := HO.out (by omega)
      obtain ⟨x0, x1, x2, x3⟩ := hcell wr HB.out k hlt
      clear hcell
      cases hr : clB (cnth l k)
      · have HE := Lib.hid (show clsB l = false from all_not_cnth (l := l) (j := k) (by omega) hr)
        go_wp2_with fail
        refine (notCl_any (cnth l k) g _ ((HB.out.cell (p := ⟨g, 0, none⟩) (clt_of_cell hg)).trans hg)).mono ?_
        rintro e w' ⟨rfl, h'⟩
        subst w'
        rw [hr]
        go_wp2_with fail
        go_ret
        exact ⟨k, rfl, by omega, ⟨fun h => by omega, fun h => by rw [HE.out] at h; cases h⟩, (HB.out.alloc HB.out.size _)⟩
      · go_wp2_with fail
        refine (notCl_any (cnth l k) g _ ((HB.out.cell (p := ⟨g, 0, none⟩) (clt_of_cell hg)).trans hg)).mono ?_
        rintro e w' ⟨rfl, h'⟩
        subst w'
        rw [hr]
        go_wp2_with fail
        go_roundw
        case rel =>
          refine ⟨k + 1, by omega, by go_num, ?_, (HB.out.alloc HB.out.size _)⟩
          intro j hj
          by_cases e : j = k
          · subst e; exact hr
          · exact HA.out j (by omega)
        case measure => simp [intOf]; omega
    · have hkn : k = n := by omega
      subst hkn
      have HL := Lib.hid (show clsB l = true from all_of_cnth (l := l) (fun j hj => HA.out j (by omega)))
      go_wp2_with fail
      go_ret
      exact ⟨-1, rfl, by omega, ⟨fun _ => HL.out, fun _ => rfl⟩, HB.out⟩
set_option maxHeartbeats 1000000 in
theorem contains_cl (a : Option Addr) (n cap : Nat) (l : List Cl) (g : Nat) (w : World) (hc : CameC w a l) (hn : l.length = n) (hm : n ≤ maxLen) (hg : w.cell? ⟨g, 0, none⟩ = some (.func (.func 22) #[] #[])) :
    Calls Try.prog 23 #[.slice a n cap, .func (.func 24) #[] #[.pointer (some ⟨g, 0, none⟩)]] w fun e w' => e = .returned (.bool (!clsB l)) ∧ Below w.heap.size w w' := by
  have HC := Lib.hid hc
  have HM := Lib.hid hm
  clear hc hm
  go_enter Try.func23, Try.ntmps23
  go_wp2_with fail
  refine (index_cl a n cap l g _ HC.out hn HM.out hg).mono ?_
  rintro e w1 ⟨i, rfl, hi, hall, hb⟩
  have HB := Lib.hid hb
  clear hb
  have HR : Hid ((!clsB l) = decide (0 ≤ i)) := by
    unfold Hid
    cases h : clsB l
    · rw [h] at hall
      have : i ≠ -1 := fun e => by have := hall.1 e; cases this
      simp; omega
    · obtain rfl := hall.2 h
      simp
  clear hall
  go_wp2_with fail
  go_ret
  exact ⟨uret_bool (by rw [HR.out]), HB.out⟩
end Go.Proofs.Ytciblhkcchaobaa
