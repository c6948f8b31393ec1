/-
  Promise R1: the walks of slip's Check and of what it calls.
-/
import Derived.Test.YtiedlmhahdnhaaaSBase
import Derived.Lib.QuietBelow
import Derived.Laws.Cover1
namespace Go.Proofs.Ytiedlmhahdnhaaa
open Go.RowKit Go.Sort

theorem isSome_any (n : Int) (w : World) : Calls Try.prog 46 #[.int .i64 n] w fun e w' => e = .returned (.bool (someB n)) ∧ w' = w := by
  by_cases h : n = 0
  · have h' : (n != 0) = false := by simp [h]
    have H : Hid (someB n = false) := Lib.hid (by unfold someB; simp [h])
    clear h
    go_enter Try.func46, Try.ntmps46
    go_wp2_with fail
    go_ret
    exact ⟨kret_bool H.out.symm, rfl⟩
  · have h' : (n != 0) = true := by simp [h]
    have H : Hid (someB n = monB n) := Lib.hid (by unfold someB; simp [h])
    clear h
    go_enter Try.func46, Try.ntmps46
    go_wp2_with (first | (go_at_call 34; refine (isMoney_any _ _).mono ?_; rintro e w' ⟨rfl, h'⟩; subst w'))
    go_ret
    exact ⟨kret_bool H.out.symm, rfl⟩
theorem isPerson_any (n : Int) (w : World) : Calls Try.prog 50 #[.int .i64 n] w fun e w' => e = .returned (.bool (perB n)) ∧ w' = w := by
  by_cases h1 : 1 ≤ n
  · by_cases h2 : n ≤ 999
    · have H : Hid (perB n = true) := decide_eq_true ⟨h1, h2⟩
      go_enter Try.func50, Try.ntmps50
      go_wp2
      go_ret
      exact ⟨kret_bool (by rw [H.out]; try (simp <;> omega)), rfl⟩
    · have H : Hid (perB n = false) := decide_eq_false (by omega)
      go_enter Try.func50, Try.ntmps50
      go_wp2
      go_ret
      exact ⟨kret_bool (by rw [H.out]; try (simp <;> omega)), rfl⟩
  · have H : Hid (perB n = false) := decide_eq_false (by omega)
    have hd : decide (1 ≤ n) = false := decide_eq_false h1
    go_enter Try.func50, Try.ntmps50
    go_wp2
    go_ret
    exact ⟨kret_bool (by rw [H.out]), rfl⟩
theorem isPerson_ref (n : Int) (w : World) : Calls Try.prog 14 #[.int .i64 n] w fun e w' => e = .returned (.bool (perB n)) ∧ w' = w := by
  by_cases h1 : 1 ≤ n
  · by_cases h2 : n ≤ 999
    · have H : Hid (perB n = true) := decide_eq_true ⟨h1, h2⟩
      go_enter Try.func14, Try.ntmps14
      go_wp2
      go_ret
      exact ⟨kret_bool (by rw [H.out]; try (simp <;> omega)), rfl⟩
    · have H : Hid (perB n = false) := decide_eq_false (by omega)
      go_enter Try.func14, Try.ntmps14
      go_wp2
      go_ret
      exact ⟨kret_bool (by rw [H.out]; try (simp <;> omega)), rfl⟩
  · have H : Hid (perB n = false) := decide_eq_false (by omega)
    have hd : decide (1 ≤ n) = false := decide_eq_false h1
    go_enter Try.func14, Try.ntmps14
    go_wp2
    go_ret
    exact ⟨kret_bool (by rw [H.out]), rfl⟩
theorem isNumber_any (n : Int) (w : World) : Calls Try.prog 29 #[.int .i64 n] w fun e w' => e = .returned (.bool (perB n)) ∧ w' = w := by
  go_enter Try.func29, Try.ntmps29
  go_wp2_with (first | (go_at_call 50; refine (isPerson_any _ _).mono ?_; rintro e w' ⟨rfl, h'⟩; subst w'))
  go_ret
  exact ⟨rfl, rfl⟩
set_option maxHeartbeats 1000000 in
theorem notNameS (s : ByteArray) (m : Int) (w : World) :
    Calls Try.prog 43 #[.agg #[.string s, .int .i64 m]] w fun e w' => e = .returned (.bool (!anB ⟨s, m⟩)) ∧ Below w.heap.size w w' := by
  have HB0 := Lib.hid (kbelow_box w (.cells #[.string s, .int .i64 m] 52))
  go_enter Try.func43, Try.ntmps43
  go_wp2_with fail
  refine (IsName_any s _).mono ?_
  rintro e w1 ⟨b, rfl, hb, hbel⟩
  have HB1 := Lib.hid (HB0.out.trans (hbel.mono HB0.out.size))
  have HE : Hid (anB ⟨s, m⟩ = b) := by
    unfold Hid anB namB
    cases b
    · exact decide_eq_false (fun h => by have := hb.2 h; cases this)
    · exact decide_eq_true (hb.1 rfl)
  clear hb hbel
  go_wp2_with fail
  go_ret
  exact ⟨kret_bool (by rw [HE.out]), HB1.out⟩
set_option maxHeartbeats 1000000 in
theorem notSomeS (s : ByteArray) (m : Int) (w : World) :
    Calls Try.prog 45 #[.agg #[.string s, .int .i64 m]] w fun e w' => e = .returned (.bool (!asB ⟨s, m⟩)) ∧ Below w.heap.size w w' := by
  have HB0 := Lib.hid (kbelow_box w (.cells #[.string s, .int .i64 m] 52))
  go_enter Try.func45, Try.ntmps45
  go_wp2_with fail
  refine (isSome_any _ _).mono ?_
  rintro e w1 ⟨rfl, h'⟩
  subst w1
  go_wp2_with fail
  go_ret
  exact ⟨rfl, HB0.out⟩
set_option maxRecDepth 100000 in
set_option maxHeartbeats 1000000 in
theorem indexNames (a : Option Addr) (n cap : Nat) (l : List Am) (w : World) (hc : CameA w a l) (hn : l.length = n) (hm : n ≤ maxLen) :
    Calls Try.prog 54 #[.slice a n cap, .func (.func 43) #[] #[]] w fun e w' => ∃ i : Int, e = .returned (.int .i64 i) ∧ -1 ≤ i ∧ (i = -1 ↔ ansB l = true) ∧ Below w.heap.size w w' := by
  have hm' : n ≤ 9223372036854775807 := by unfold maxLen at hm; omega
  have HO := Lib.hid (fun h0 => hc.open hn h0)
  clear hm hc
  go_enter Try.func54, Try.ntmps54
  go_wp2_with fail
  go_loopw [8] (fun i wr => ∃ k : Nat, k ≤ n ∧ i = .int .i64 k ∧ (∀ j, j < k → anB (anth l j) = true) ∧ Below w.heap.size w wr) (fun i _ => n - (intOf i).toNat)
  case atStart => exact ⟨0, Nat.zero_le _, rfl, fun j hj => by omega, Below.refl _ _⟩
  case round =>
    obtain ⟨k, hk, rfl, hall, hb⟩ := hrel
    have HA := Lib.hid hall
    have HB := Lib.hid hb
    clear hall hb
    by_cases hlt : k < n
    · have hlt' : (k : Int) < (n : Int) := by omega
      obtain ⟨b, off, rfl, hcell⟩ := HO.out (by omega)
      obtain ⟨x0, x1⟩ := hcell wr HB.out k hlt
      clear hcell
      cases hr : anB (anth l k)
      · have HE : Hid (ansB l = false) := Lib.hid (all_not (l := l) (j := k) (by omega) hr)
        go_wp2_with fail
        refine (notNameS _ _ _).mono ?_
        rintro e w1 ⟨rfl, hb1⟩
        have HB1 := Lib.hid (HB.out.trans (hb1.mono HB.out.size))
        have hr' : anB ⟨(anth l k).name, (anth l k).mon⟩ = false := hr
        rw [hr']
        clear hb1 x0 x1
        go_wp2_with fail
        go_ret
        exact ⟨k, rfl, by omega, ⟨fun h => by omega, fun h => by rw [HE.out] at h; cases h⟩, HB1.out⟩
      · go_wp2_with fail
        refine (notNameS _ _ _).mono ?_
        rintro e w1 ⟨rfl, hb1⟩
        have HB1 := Lib.hid (HB.out.trans (hb1.mono HB.out.size))
        have hr' : anB ⟨(anth l k).name, (anth l k).mon⟩ = true := hr
        rw [hr']
        clear hb1 x0 x1
        go_wp2_with fail
        go_roundw
        case rel =>
          refine ⟨k + 1, by omega, by go_num, ?_, HB1.out⟩
          intro j hj
          by_cases e : j = k
          · subst e; exact hr
          · exact HA.out j (by omega)
        case measure => simp [intOf]; omega
    · have hkn : k = n := by omega
      subst hkn
      have HL : Hid (ansB l = true) := Lib.hid (all_of (l := l) (fun j hj => HA.out j (by omega)))
      go_wp2_with fail
      go_ret
      exact ⟨-1, rfl, by omega, ⟨fun _ => HL.out, fun _ => rfl⟩, HB.out⟩
set_option maxHeartbeats 1000000 in
theorem containsNames (a : Option Addr) (n cap : Nat) (l : List Am) (w : World) (hc : CameA w a l) (hn : l.length = n) (hm : n ≤ maxLen) :
    Calls Try.prog 32 #[.slice a n cap, .func (.func 43) #[] #[]] w fun e w' => e = .returned (.bool (!ansB l)) ∧ Below w.heap.size w w' := by
  have HC := Lib.hid hc
  have HM := Lib.hid hm
  clear hc hm
  go_enter Try.func32, Try.ntmps32
  go_wp2_with fail
  refine (indexNames a n cap l _ HC.out hn HM.out).mono ?_
  rintro e w1 ⟨i, rfl, hi, hall, hb⟩
  have HB := Lib.hid hb
  clear hb
  have HR : Hid ((!ansB l) = decide (0 ≤ i)) := by
    unfold Hid
    cases h : ansB l
    · rw [h] at hall
      have : i ≠ -1 := fun e => by have := hall.1 e; cases this
      simp; omega
    · obtain rfl := hall.2 h
      simp
  clear hall
  go_wp2_with fail
  go_ret
  exact ⟨kret_bool (by rw [HR.out]), HB.out⟩
set_option maxRecDepth 100000 in
set_option maxHeartbeats 1000000 in
theorem indexSome (a : Option Addr) (n cap : Nat) (l : List Am) (w : World) (hc : CameA w a l) (hn : l.length = n) (hm : n ≤ maxLen) :
    Calls Try.prog 54 #[.slice a n cap, .func (.func 45) #[] #[]] w fun e w' => ∃ i : Int, e = .returned (.int .i64 i) ∧ -1 ≤ i ∧ (i = -1 ↔ assB l = true) ∧ Below w.heap.size w w' := by
  have hm' : n ≤ 9223372036854775807 := by unfold maxLen at hm; omega
  have HO := Lib.hid (fun h0 => hc.open hn h0)
  clear hm hc
  go_enter Try.func54, Try.ntmps54
  go_wp2_with fail
  go_loopw [8] (fun i wr => ∃ k : Nat, k ≤ n ∧ i = .int .i64 k ∧ (∀ j, j < k → asB (anth l j) = true) ∧ Below w.heap.size w wr) (fun i _ => n - (intOf i).toNat)
  case atStart => exact ⟨0, Nat.zero_le _, rfl, fun j hj => by omega, Below.refl _ _⟩
  case round =>
    obtain ⟨k, hk, rfl, hall, hb⟩ := hrel
    have HA := Lib.hid hall
    have HB := Lib.hid hb
    clear hall hb
    by_cases hlt : k < n
    · have hlt' : (k : Int) < (n : Int) := by omega
      obtain ⟨b, off, rfl, hcell⟩ := HO.out (by omega)
      obtain ⟨x0, x1⟩ := hcell wr HB.out k hlt
      clear hcell
      cases hr : asB (anth l k)
      · have HE : Hid (assB l = false) := Lib.hid (all_not (l := l) (j := k) (by omega) hr)
        go_wp2_with fail
        refine (notSomeS _ _ _).mono ?_
        rintro e w1 ⟨rfl, hb1⟩
        have HB1 := Lib.hid (HB.out.trans (hb1.mono HB.out.size))
        have hr' : asB ⟨(anth l k).name, (anth l k).mon⟩ = false := hr
        rw [hr']
        clear hb1 x0 x1
        go_wp2_with fail
        go_ret
        exact ⟨k, rfl, by omega, ⟨fun h => by omega, fun h => by rw [HE.out] at h; cases h⟩, HB1.out⟩
      · go_wp2_with fail
        refine (notSomeS _ _ _).mono ?_
        rintro e w1 ⟨rfl, hb1⟩
        have HB1 := Lib.hid (HB.out.trans (hb1.mono HB.out.size))
        have hr' : asB ⟨(anth l k).name, (anth l k).mon⟩ = true := hr
        rw [hr']
        clear hb1 x0 x1
        go_wp2_with fail
        go_roundw
        case rel =>
          refine ⟨k + 1, by omega, by go_num, ?_, HB1.out⟩
          intro j hj
          by_cases e : j = k
          · subst e; exact hr
          · exact HA.out j (by omega)
        case measure => simp [intOf]; omega
    · have hkn : k = n := by omega
      subst hkn
      have HL : Hid (assB l = true) := Lib.hid (all_of (l := l) (fun j hj => HA.out j (by omega)))
      go_wp2_with fail
      go_ret
      exact ⟨-1, rfl, by omega, ⟨fun _ => HL.out, fun _ => rfl⟩, HB.out⟩
set_option maxHeartbeats 1000000 in
theorem containsSome (a : Option Addr) (n cap : Nat) (l : List Am) (w : World) (hc : CameA w a l) (hn : l.length = n) (hm : n ≤ maxLen) :
    Calls Try.prog 32 #[.slice a n cap, .func (.func 45) #[] #[]] w fun e w' => e = .returned (.bool (!assB l)) ∧ Below w.heap.size w w' := by
  have HC := Lib.hid hc
  have HM := Lib.hid hm
  clear hc hm
  go_enter Try.func32, Try.ntmps32
  go_wp2_with fail
  refine (indexSome a n cap l _ HC.out hn HM.out).mono ?_
  rintro e w1 ⟨i, rfl, hi, hall, hb⟩
  have HB := Lib.hid hb
  clear hb
  have HR : Hid ((!assB l) = decide (0 ≤ i)) := by
    unfold Hid
    cases h : assB l
    · rw [h] at hall
      have : i ≠ -1 := fun e => by have := hall.1 e; cases this
      simp; omega
    · obtain rfl := hall.2 h
      simp
  clear hall
  go_wp2_with fail
  go_ret
  exact ⟨kret_bool (by rw [HR.out]), HB.out⟩
set_option maxHeartbeats 1000000 in
theorem slipName_any (s : ByteArray) (m : Int) (w : World) :
    Calls Try.prog 48 #[.agg #[.string s, .int .i64 m]] w fun e w' => e = .returned (.string s) ∧ Below w.heap.size w w' := by
  go_enter Try.func48, Try.ntmps48
  go_wp2_with fail
  go_ret
  exact ⟨rfl, kbelow_box _ _⟩
set_option maxRecDepth 100000 in
set_option maxHeartbeats 2000000 in
theorem riseA_any (a : Option Addr) (n cap : Nat) (l : List Am) (w : World) (hc : CameA w a l) (hn : l.length = n) (hm : n ≤ maxLen) :
    Calls Try.prog 47 #[.slice a n cap, .func (.func 48) #[] #[]] w fun e w' => e = .returned (.bool (upN (fun j => (anth l j).name) n)) ∧ Below w.heap.size w w' := by
  have hm' : n ≤ 9223372036854775807 := by unfold maxLen at hm; omega
  have HO := Lib.hid (fun h0 => hc.open hn h0)
  clear hm hc
  go_enter Try.func47, Try.ntmps47
  go_wp2_with fail
  go_loopw [5] (fun i wr => ∃ r : Nat, (r + 1 ≤ n ∨ r = 0) ∧ i = .int .i64 ((r : Int) + 1) ∧ Below w.heap.size w wr ∧ ∀ j, j < r → leS (anth l (j + 1)).name (anth l j).name = false) (fun i _ => n - (intOf i).toNat)
  case atStart => exact ⟨0, .inr rfl, rfl, Below.refl _ _, fun j hj => by omega⟩
  case round =>
    obtain ⟨r, hrk, rfl, hb, hall⟩ := hrel
    have HA := Lib.hid hall
    have HB := Lib.hid hb
    clear hall hb
    by_cases hlt : r + 1 < n
    · have hlt' : (r : Int) + 1 < (n : Int) := by omega
      have hlt0 : (r : Int) < (n : Int) := by omega
      obtain ⟨b, off, rfl, hcell⟩ := HO.out (by omega)
      obtain ⟨x0, x1⟩ := hcell _ HB.out r (by omega)
      obtain ⟨y0, y1⟩ := hcell _ HB.out (r + 1) (by omega)
      clear hcell
      have htn : ((r : Int) + 1).toNat = r + 1 := by omega
      have hi0 : (0 : Int) ≤ (r : Int) + 1 := by omega
      have hr0 : (0 : Int) ≤ (r : Int) := by omega
      have hwr : IntKind.i64.wrap (r : Int) = (r : Int) := IntWalk.i64_in _ (by omega)
      have hwd : IntKind.i64.wrap ((r : Int) + 1 - 1) = (r : Int) := by rw [show (r : Int) + 1 - 1 = r by omega]; exact hwr
      have hd0 : (0 : Int) ≤ (r : Int) + 1 - 1 := by omega
      have hdn : (r : Int) + 1 - 1 < (n : Int) := by omega
      have hdt : ((r : Int) + 1 - 1).toNat = r := by omega
      have k0 := cell_regrown x0
      have k1 := cell_regrown x1
      have k2 := cell_regrown y0
      have k3 := cell_regrown y1
      cases hle : leS (anth l (r + 1)).name (anth l r).name
      · unfold leS at hle
        go_wp2_with fail
        refine wp_region_quiet_below (by kernel_rfl) (by kernel_rfl) ?_
        repeat (quiet_step (exact Calls.regrown_of (slipName_any _ _ _)))
        refine wpQuiet_nil ?_
        intro _ hw'
        obtain ⟨⟨dq, osq⟩, hw''⟩ := hw'
        subst hw''
        go_wp2_with fail
        go_roundw
        case rel =>
          refine ⟨r + 1, .inl (by omega), by go_num, HB.out.trans ((below_regrown wr dq osq).mono HB.out.size), ?_⟩
          intro j hj
          by_cases e : j = r
          · subst e; exact hle
          · exact HA.out j (by omega)
        case measure => simp [intOf]; omega
      · have HF := Lib.hid (upN_not (f := fun j => (anth l j).name) (n := n) hlt hle)
        unfold leS at hle
        go_wp2_with fail
        refine wp_region_quiet_below (by kernel_rfl) (by kernel_rfl) ?_
        repeat (quiet_step (exact Calls.regrown_of (slipName_any _ _ _)))
        refine wpQuiet_nil ?_
        intro _ hw'
        obtain ⟨⟨dq, osq⟩, hw''⟩ := hw'
        subst hw''
        go_wp2_with fail
        go_ret
        exact ⟨kret_bool HF.out.symm, HB.out.trans ((below_regrown wr dq osq).mono HB.out.size)⟩
    · have hnl : ¬ ((r : Int) + 1 < (n : Int)) := by omega
      have HF := Lib.hid (upN_iff (f := fun j => (anth l j).name) (n := n).2 (fun j hj => HA.out j (by omega)))
      go_wp2_with fail
      go_ret
      exact ⟨kret_bool HF.out.symm, HB.out⟩
set_option maxRecDepth 100000 in
set_option maxHeartbeats 4000000 in
theorem checkSlip_any (nu pe ru : Int) (g : Bool) (a : Option Addr) (n cap : Nat) (l : List Am) (w : World) (hp : PsAt w a l) (hn : l.length = n) :
    Calls Try.prog 27 #[.agg #[.int .i64 nu, .int .i64 pe, .int .i64 ru, .bool g, .slice a n cap]] w fun e w' => e = .returned (.int .i64 (slW ⟨nu, pe, ru, g, l⟩)) ∧ Below w.heap.size w w' := by
  have HC := Lib.hid hp.1
  have HM : Hid (n ≤ maxLen) := Lib.hid (by rw [← hn]; exact hp.2.2)
  have HN := Lib.hid hn
  have hm' : n ≤ 9223372036854775807 := by have := HM.out; unfold maxLen at this; omega
  have HE : Hid (slW ⟨nu, pe, ru, g, l⟩ = if perB nu = false ∨ perB pe = false ∨ perB ru = false then 3 else if 30 < n then 2 else if ansB l = false then 1 else if assB l = false then 3 else if upN (fun j => (anth l j).name) n = false then 6 else 0) := by unfold Hid slW; rw [hn]
  have HB0 := Lib.hid (kbelow_box w (.cells #[.int .i64 nu, .int .i64 pe, .int .i64 ru, .bool g, .slice a n cap] 44))
  clear hp hn
  cases hd1 : perB nu
  · rw [hd1, if_pos (.inl rfl)] at HE
    have hd2 := hd1
    have hd3 := hd1
    go_enter Try.func27, Try.ntmps27
    go_wp2_with (first | (go_at_call 29; refine (isNumber_any _ _).mono ?_; rintro e w' ⟨rfl, h'⟩; subst w'; first | rw [hd1] | rw [hd2] | rw [hd3]))
    go_ret
    exact ⟨kret_int HE.out.symm, HB0.out⟩
  · cases hd2 : perB pe
    · rw [hd2, if_pos (.inr (.inl rfl))] at HE
      have hd3 := hd1
      go_enter Try.func27, Try.ntmps27
      go_wp2_with (first | (go_at_call 29; refine (isNumber_any _ _).mono ?_; rintro e w' ⟨rfl, h'⟩; subst w'; first | rw [hd1] | rw [hd2] | rw [hd3]))
      go_ret
      exact ⟨kret_int HE.out.symm, HB0.out⟩
    · cases hd3 : perB ru
      · rw [hd3, if_pos (.inr (.inr rfl))] at HE
        go_enter Try.func27, Try.ntmps27
        go_wp2_with (first | (go_at_call 29; refine (isNumber_any _ _).mono ?_; rintro e w' ⟨rfl, h'⟩; subst w'; first | rw [hd1] | rw [hd2] | rw [hd3]))
        go_ret
        exact ⟨kret_int HE.out.symm, HB0.out⟩
      · rw [hd1, hd2, hd3, if_neg (by decide)] at HE
        by_cases h20 : 30 < n
        · have h20' : (30 : Int) < (n : Int) := by omega
          rw [if_pos h20] at HE
          go_enter Try.func27, Try.ntmps27
          go_wp2_with (first | (go_at_call 29; refine (isNumber_any _ _).mono ?_; rintro e w' ⟨rfl, h'⟩; subst w'; first | rw [hd1] | rw [hd2] | rw [hd3]))
          go_ret
          exact ⟨kret_int HE.out.symm, HB0.out⟩
        · have h20' : decide ((30 : Int) < (n : Int)) = false := decide_eq_false (by omega)
          rw [if_neg h20] at HE
          clear h20
          go_enter Try.func27, Try.ntmps27
          go_wp2_with (first | (go_at_call 29; refine (isNumber_any _ _).mono ?_; rintro e w' ⟨rfl, h'⟩; subst w'; first | rw [hd1] | rw [hd2] | rw [hd3]))
          refine (containsNames a n cap l _ (HC.out.below HB0.out) HN.out HM.out).mono ?_
          rintro e w1 ⟨rfl, hb1⟩
          have HB1 := Lib.hid (HB0.out.trans (hb1.mono HB0.out.size))
          have k1 : w1.cell? ⟨w.heap.size, 4, none⟩ = some (.slice a n cap) := (hb1.cell (p := ⟨w.heap.size, 4, none⟩) (by simp)).trans (by simp)
          clear hb1
          cases h1 : ansB l
          · rw [h1, if_pos rfl] at HE
            go_wp2_with fail
            go_ret
            exact ⟨kret_int HE.out.symm, HB1.out⟩
          · rw [h1, if_neg (by decide)] at HE
            go_wp2_with fail
            refine (containsSome a n cap l _ (HC.out.below HB1.out) HN.out HM.out).mono ?_
            rintro e w2 ⟨rfl, hb2⟩
            have HB2 := Lib.hid (HB1.out.trans (hb2.mono HB1.out.size))
            have k2 : w2.cell? ⟨w.heap.size, 4, none⟩ = some (.slice a n cap) := (hb2.cell (p := ⟨w.heap.size, 4, none⟩) (oblt_of_cell k1)).trans k1
            clear hb2 k1
            cases h3 : assB l
            · rw [h3, if_pos rfl] at HE
              go_wp2_with fail
              go_ret
              exact ⟨kret_int HE.out.symm, HB2.out⟩
            · rw [h3, if_neg (by decide)] at HE
              go_wp2_with fail
              refine (riseA_any a n cap l _ (HC.out.below HB2.out) HN.out HM.out).mono ?_
              rintro e w3 ⟨rfl, hb3⟩
              have HB3 := Lib.hid (HB2.out.trans (hb3.mono HB2.out.size))
              clear hb3
              cases h0 : upN (fun j => (anth l j).name) n
              · rw [h0, if_pos rfl] at HE
                go_wp2_with fail
                go_ret
                exact ⟨kret_int HE.out.symm, HB3.out⟩
              · rw [h0, if_neg (by decide)] at HE
                go_wp2_with fail
                go_ret
                exact ⟨kret_int HE.out.symm, HB3.out⟩
set_option maxRecDepth 100000 in
set_option maxHeartbeats 2000000 in
theorem Check_any (a : Option Addr) (n cap : Nat) (l : List Sl) (w : World) (hc : CameS w a l) (hn : l.length = n) :
    Calls Try.prog 11 #[.slice a n cap] w fun e w' => e = .returned (.int .i64 (slE l)) ∧ Below w.heap.size w w' := by
  have HO := Lib.hid (fun h0 => hc.open hn h0)
  have HN := Lib.hid hn
  have HE : Hid (slE l = if 200 < l.length then 2 else if slsW l = 0 then (if upS l = true then 0 else 4) else slsW l) := rfl
  clear hc hn
  by_cases h400 : 200 < n
  · have h4 : (200 : Int) < (n : Int) := by omega
    have HR : Hid (slE l = 2) := Lib.hid (by rw [HE.out, HN.out, if_pos h400])
    go_enter Try.func11, Try.ntmps11
    go_wp2_with fail
    go_ret
    exact ⟨kret_int HR.out.symm, Below.refl _ _⟩
  · have h4 : ¬ ((200 : Int) < (n : Int)) := by omega
    rw [HN.out, if_neg h400] at HE
    go_enter Try.func11, Try.ntmps11
    go_wp2_with fail
    go_loopw [12] (fun i wr => ∃ k : Nat, k ≤ n ∧ i = .int .i64 k ∧ (∀ j, j < k → slW (snth l j) = 0) ∧ Below w.heap.size w wr) (fun i _ => n - (intOf i).toNat)
    case atStart => exact ⟨0, Nat.zero_le _, rfl, fun j hj => by omega, Below.refl _ _⟩
    case round =>
      obtain ⟨k, hk, rfl, hall, hb⟩ := hrel
      have HA := Lib.hid hall
      have HB := Lib.hid hb
      clear hall hb
      by_cases hlt : k < n
      · have hlt' : (k : Int) < (n : Int) := by omega
        obtain ⟨b, off, rfl, hcell⟩ := HO.out (by omega)
        obtain ⟨⟨x0, x1, x2, x3⟩, ax, cx, x4, hp⟩ := hcell wr HB.out k hlt
        clear hcell
        have HP := Lib.hid hp
        have HBX := Lib.hid (HB.out.trans (Below.mono (B := wr.heap.size) (kbelow_box wr (.cells #[.int .i64 (snth l k).num, .int .i64 (snth l k).per, .int .i64 (snth l k).run, .bool (snth l k).gone, .slice ax (snth l k).tot.length cx] 44)) HB.out.size))
        have HK := Lib.hid (fun w (hp : PsAt w ax _) => checkSlip_any (snth l k).num (snth l k).per (snth l k).run (snth l k).gone ax (snth l k).tot.length cx (snth l k).tot w hp rfl)
        clear hp
        by_cases hz : slW (snth l k) = 0
        · have HZ := Lib.hid hz
          have hz' : slW ⟨(snth l k).num, (snth l k).per, (snth l k).run, (snth l k).gone, (snth l k).tot⟩ = 0 := hz
          rw [hz'] at HK
          clear hz hz'
          go_wp2_with fail
          refine (HK.out _ (HP.out.below (kbelow_box wr (.cells #[.int .i64 (snth l k).num, .int .i64 (snth l k).per, .int .i64 (snth l k).run, .bool (snth l k).gone, .slice ax (snth l k).tot.length cx] 44)))).mono ?_
          rintro e w1 ⟨rfl, hb1⟩
          have HB1 := Lib.hid (HBX.out.trans (hb1.mono HBX.out.size))
          clear hb1
          go_wp2_with fail
          go_roundw
          case rel =>
            refine ⟨k + 1, by omega, by go_num, ?_, HB1.out⟩
            intro j hj
            by_cases e : j = k
            · subst e; exact HZ.out
            · exact HA.out j (by omega)
          case measure => simp [intOf]; omega
        · have HR : Hid (slE l = slW (snth l k)) := Lib.hid (by
            have e : slsW l = slW (snth l k) := slsW_at HA.out (by rw [HN.out]; exact hlt) hz
            rw [HE.out, e, if_neg hz])
          obtain ⟨c, hcc⟩ : ∃ c, slW (snth l k) = c := ⟨_, rfl⟩
          have hcc' : slW ⟨(snth l k).num, (snth l k).per, (snth l k).run, (snth l k).gone, (snth l k).tot⟩ = c := hcc
          rw [hcc'] at HK
          rw [hcc] at HR hz
          have hz' : (c != 0) = true := by simp [hz]
          clear hcc hcc' hz
          go_wp2_with fail
          refine (HK.out _ (HP.out.below (kbelow_box wr (.cells #[.int .i64 (snth l k).num, .int .i64 (snth l k).per, .int .i64 (snth l k).run, .bool (snth l k).gone, .slice ax (snth l k).tot.length cx] 44)))).mono ?_
          rintro e w1 ⟨rfl, hb1⟩
          have HB1 := Lib.hid (HBX.out.trans (hb1.mono HBX.out.size))
          clear hb1
          go_wp2_with fail
          go_ret
          exact ⟨kret_int HR.out.symm, HB1.out⟩
      · have hkn : k = n := by omega
        subst hkn
        have HZ : Hid (slsW l = 0) := Lib.hid (slsW_ok (fun j hj => HA.out j (by rw [HN.out] at hj; exact hj)))
        rw [HZ.out, if_pos rfl] at HE
        clear HZ HA
        go_wp2_with fail
        generalize wr = wu at *
        go_loopw [6] (fun i wq => ∃ r : Nat, (r + 1 ≤ k ∨ r = 0) ∧ i = .int .i64 ((r : Int) + 1) ∧ Below w.heap.size w wq ∧ ∀ j, j < r → (snth l j).num < (snth l (j + 1)).num) (fun i _ => k - (intOf i).toNat)
        case atStart => exact ⟨0, .inr rfl, rfl, HB.out, fun j hj => by omega⟩
        case round =>
          clear HB
          obtain ⟨r, hrk, rfl, hb, hall⟩ := hrel
          have HA := Lib.hid hall
          have HB := Lib.hid hb
          clear hall hb
          by_cases hlt : r + 1 < k
          · have hlt' : (r : Int) + 1 < (k : Int) := by omega
            have hlt0 : (r : Int) < (k : Int) := by omega
            obtain ⟨b, off, rfl, hcell⟩ := HO.out (by omega)
            have hx := hcell _ HB.out r (by omega)
            have hy := hcell _ HB.out (r + 1) (by omega)
            clear hcell
            obtain ⟨⟨x0, _⟩, _⟩ := hx; obtain ⟨⟨y0, _⟩, _⟩ := hy
            have hsub : (r : Int) + 1 - 1 = (r : Int) := by omega
            have htn : ((r : Int) + 1).toNat = r + 1 := by omega
            have HUN := Lib.hid (fun h => upS_not (l := l) (j := r) (by rw [HN.out]; exact hlt) h)
            obtain ⟨u, hu⟩ : ∃ u, (snth l r).num = u := ⟨_, rfl⟩
            obtain ⟨v, hv⟩ : ∃ v, (snth l (r + 1)).num = v := ⟨_, rfl⟩
            rw [hu] at x0 HUN
            rw [hv] at y0 HUN
            have HU := Lib.hid hu
            have HV := Lib.hid hv
            clear hu hv
            by_cases hd : u < v
            · have hd1 : decide (v ≤ u) = false := decide_eq_false (by omega)
              have HD := Lib.hid hd
              go_wp2_with fail
              go_quiet (fail)
              go_wp2_with fail
              go_roundw
              case rel =>
                refine ⟨r + 1, .inl (by omega), by go_num, kbelow_dN HB.out _, ?_⟩
                intro j hj
                by_cases e : j = r
                · subst e; rw [HU.out, HV.out]; exact HD.out
                · exact HA.out j (by omega)
              case measure => simp [intOf]; omega
            · have hd1 : v ≤ u := by omega
              have HT := Lib.hid (HUN.out hd1)
              rw [HT.out] at HE
              go_wp2_with fail
              go_quiet (fail)
              go_wp2_with fail
              go_ret
              exact ⟨kret_int HE.out.symm, kbelow_dN HB.out _⟩
          · have hnl : ¬ ((r : Int) + 1 < (k : Int)) := by omega
            have HT : Hid (upS l = true) := upS_iff.2 (fun j hj => HA.out j (by rw [HN.out] at hj; omega))
            rw [HT.out] at HE
            go_wp2_with fail
            go_ret
            exact ⟨kret_int HE.out.symm, HB.out⟩
end Go.Proofs.Ytiedlmhahdnhaaa
