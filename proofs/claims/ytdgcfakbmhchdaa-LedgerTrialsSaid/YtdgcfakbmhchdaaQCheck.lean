/-
  Promise Q1: the walks of ledger's Check and of what it calls.
-/
import Derived.Test.YtdgcfakbmhchdaaQBase
namespace Go.Proofs.Ytdgcfakbmhchdaa
open Go.RowKit

theorem isSome_any (n : Int) (w : World) : Calls Try.prog 43 #[.int .i64 n] w fun e w' => e = .returned (.bool (someB n)) ∧ w' = w := by
  by_cases h : n = 0
  · have h' : (n != 0) = false := by simp [h]
    have H : Hid (someB n = false) := Lib.hid (by unfold someB; simp [h])
    clear h
    go_enter Try.func43, Try.ntmps43
    go_wp2_with fail
    go_ret
    exact ⟨kret_bool H.out.symm, rfl⟩
  · have h' : (n != 0) = true := by simp [h]
    have H : Hid (someB n = monB n) := Lib.hid (by unfold someB; simp [h])
    clear h
    go_enter Try.func43, Try.ntmps43
    go_wp2_with (first | (go_at_call 55; refine (isMoney_any _ _).mono ?_; rintro e w' ⟨rfl, h'⟩; subst w'))
    go_ret
    exact ⟨kret_bool H.out.symm, rfl⟩
theorem isDay_any (n : Int) (w : World) : Calls Try.prog 36 #[.int .i64 n] w fun e w' => e = .returned (.bool (dayB n)) ∧ w' = w := by
  by_cases h1 : 0 ≤ n
  · by_cases h2 : n ≤ 73048
    · have H : Hid (dayB n = true) := decide_eq_true ⟨h1, h2⟩
      go_enter Try.func36, Try.ntmps36
      go_wp2
      go_ret
      exact ⟨kret_bool (by rw [H.out]; try (simp <;> omega)), rfl⟩
    · have H : Hid (dayB n = false) := decide_eq_false (by omega)
      go_enter Try.func36, Try.ntmps36
      go_wp2
      go_ret
      exact ⟨kret_bool (by rw [H.out]; try (simp <;> omega)), rfl⟩
  · have H : Hid (dayB n = false) := decide_eq_false (by omega)
    have hd : decide (0 ≤ n) = false := decide_eq_false h1
    go_enter Try.func36, Try.ntmps36
    go_wp2
    go_ret
    exact ⟨kret_bool (by rw [H.out]), rfl⟩
theorem isDay_ref (n : Int) (w : World) : Calls Try.prog 30 #[.int .i64 n] w fun e w' => e = .returned (.bool (dayB n)) ∧ w' = w := by
  by_cases h1 : 0 ≤ n
  · by_cases h2 : n ≤ 73048
    · have H : Hid (dayB n = true) := decide_eq_true ⟨h1, h2⟩
      go_enter Try.func30, Try.ntmps30
      go_wp2
      go_ret
      exact ⟨kret_bool (by rw [H.out]; try (simp <;> omega)), rfl⟩
    · have H : Hid (dayB n = false) := decide_eq_false (by omega)
      go_enter Try.func30, Try.ntmps30
      go_wp2
      go_ret
      exact ⟨kret_bool (by rw [H.out]; try (simp <;> omega)), rfl⟩
  · have H : Hid (dayB n = false) := decide_eq_false (by omega)
    have hd : decide (0 ≤ n) = false := decide_eq_false h1
    go_enter Try.func30, Try.ntmps30
    go_wp2
    go_ret
    exact ⟨kret_bool (by rw [H.out]), rfl⟩
set_option maxHeartbeats 1000000 in
theorem notNameE (s : ByteArray) (m : Int) (w : World) :
    Calls Try.prog 40 #[.agg #[.string s, .int .i64 m]] w fun e w' => e = .returned (.bool (!anB ⟨s, m⟩)) ∧ Below w.heap.size w w' := by
  have HB0 := Lib.hid (kbelow_box w (.cells #[.string s, .int .i64 m] 60))
  go_enter Try.func40, Try.ntmps40
  go_wp2_with fail
  refine (IsName_any s _).mono ?_
  rintro e w1 ⟨b, rfl, hb, hbel⟩
  have HB1 := Lib.hid (HB0.out.trans (hbel.mono HB0.out.size))
  have HE : Hid (anB ⟨s, m⟩ = b) := by
    unfold Hid anB namB
    cases b
    · exact decide_eq_false (fun h => by have := hb.2 h; cases this)
    · exact decide_eq_true (hb.1 rfl)
  clear hb hbel
  go_wp2_with fail
  go_ret
  exact ⟨kret_bool (by rw [HE.out]), HB1.out⟩
set_option maxHeartbeats 1000000 in
theorem notSomeE (s : ByteArray) (m : Int) (w : World) :
    Calls Try.prog 42 #[.agg #[.string s, .int .i64 m]] w fun e w' => e = .returned (.bool (!asB ⟨s, m⟩)) ∧ Below w.heap.size w w' := by
  have HB0 := Lib.hid (kbelow_box w (.cells #[.string s, .int .i64 m] 60))
  go_enter Try.func42, Try.ntmps42
  go_wp2_with fail
  refine (isSome_any _ _).mono ?_
  rintro e w1 ⟨rfl, h'⟩
  subst w1
  go_wp2_with fail
  go_ret
  exact ⟨rfl, HB0.out⟩
set_option maxRecDepth 100000 in
set_option maxHeartbeats 1000000 in
theorem indexNames (a : Option Addr) (n cap : Nat) (l : List Am) (w : World) (hc : CameA w a l) (hn : l.length = n) (hm : n ≤ maxLen) :
    Calls Try.prog 52 #[.slice a n cap, .func (.func 40) #[] #[]] w fun e w' => ∃ i : Int, e = .returned (.int .i64 i) ∧ -1 ≤ i ∧ (i = -1 ↔ ansB l = true) ∧ Below w.heap.size w w' := by
  have hm' : n ≤ 9223372036854775807 := by unfold maxLen at hm; omega
  have HO := Lib.hid (fun h0 => hc.open hn h0)
  clear hm hc
  go_enter Try.func52, Try.ntmps52
  go_wp2_with fail
  go_loopw [8] (fun i wr => ∃ k : Nat, k ≤ n ∧ i = .int .i64 k ∧ (∀ j, j < k → anB (anth l j) = true) ∧ Below w.heap.size w wr) (fun i _ => n - (intOf i).toNat)
  case atStart => exact ⟨0, Nat.zero_le _, rfl, fun j hj => by omega, Below.refl _ _⟩
  case round =>
    obtain ⟨k, hk, rfl, hall, hb⟩ := hrel
    have HA := Lib.hid hall
    have HB := Lib.hid hb
    clear hall hb
    by_cases hlt : k < n
    · have hlt' : (k : Int) < (n : Int) := by omega
      obtain ⟨b, off, rfl, hcell⟩ := HO.out (by omega)
      obtain ⟨x0, x1⟩ := hcell wr HB.out k hlt
      clear hcell
      cases hr : anB (anth l k)
      · have HE : Hid (ansB l = false) := Lib.hid (all_not (l := l) (j := k) (by omega) hr)
        go_wp2_with fail
        refine (notNameE _ _ _).mono ?_
        rintro e w1 ⟨rfl, hb1⟩
        have HB1 := Lib.hid (HB.out.trans (hb1.mono HB.out.size))
        have hr' : anB ⟨(anth l k).name, (anth l k).mon⟩ = false := hr
        rw [hr']
        clear hb1 x0 x1
        go_wp2_with fail
        go_ret
        exact ⟨k, rfl, by omega, ⟨fun h => by omega, fun h => by rw [HE.out] at h; cases h⟩, HB1.out⟩
      · go_wp2_with fail
        refine (notNameE _ _ _).mono ?_
        rintro e w1 ⟨rfl, hb1⟩
        have HB1 := Lib.hid (HB.out.trans (hb1.mono HB.out.size))
        have hr' : anB ⟨(anth l k).name, (anth l k).mon⟩ = true := hr
        rw [hr']
        clear hb1 x0 x1
        go_wp2_with fail
        go_roundw
        case rel =>
          refine ⟨k + 1, by omega, by go_num, ?_, HB1.out⟩
          intro j hj
          by_cases e : j = k
          · subst e; exact hr
          · exact HA.out j (by omega)
        case measure => simp [intOf]; omega
    · have hkn : k = n := by omega
      subst hkn
      have HL : Hid (ansB l = true) := Lib.hid (all_of (l := l) (fun j hj => HA.out j (by omega)))
      go_wp2_with fail
      go_ret
      exact ⟨-1, rfl, by omega, ⟨fun _ => HL.out, fun _ => rfl⟩, HB.out⟩
set_option maxHeartbeats 1000000 in
theorem containsNames (a : Option Addr) (n cap : Nat) (l : List Am) (w : World) (hc : CameA w a l) (hn : l.length = n) (hm : n ≤ maxLen) :
    Calls Try.prog 39 #[.slice a n cap, .func (.func 40) #[] #[]] w fun e w' => e = .returned (.bool (!ansB l)) ∧ Below w.heap.size w w' := by
  have HC := Lib.hid hc
  have HM := Lib.hid hm
  clear hc hm
  go_enter Try.func39, Try.ntmps39
  go_wp2_with fail
  refine (indexNames a n cap l _ HC.out hn HM.out).mono ?_
  rintro e w1 ⟨i, rfl, hi, hall, hb⟩
  have HB := Lib.hid hb
  clear hb
  have HR : Hid ((!ansB l) = decide (0 ≤ i)) := by
    unfold Hid
    cases h : ansB l
    · rw [h] at hall
      have : i ≠ -1 := fun e => by have := hall.1 e; cases this
      simp; omega
    · obtain rfl := hall.2 h
      simp
  clear hall
  go_wp2_with fail
  go_ret
  exact ⟨kret_bool (by rw [HR.out]), HB.out⟩
set_option maxRecDepth 100000 in
set_option maxHeartbeats 1000000 in
theorem indexSome (a : Option Addr) (n cap : Nat) (l : List Am) (w : World) (hc : CameA w a l) (hn : l.length = n) (hm : n ≤ maxLen) :
    Calls Try.prog 52 #[.slice a n cap, .func (.func 42) #[] #[]] w fun e w' => ∃ i : Int, e = .returned (.int .i64 i) ∧ -1 ≤ i ∧ (i = -1 ↔ assB l = true) ∧ Below w.heap.size w w' := by
  have hm' : n ≤ 9223372036854775807 := by unfold maxLen at hm; omega
  have HO := Lib.hid (fun h0 => hc.open hn h0)
  clear hm hc
  go_enter Try.func52, Try.ntmps52
  go_wp2_with fail
  go_loopw [8] (fun i wr => ∃ k : Nat, k ≤ n ∧ i = .int .i64 k ∧ (∀ j, j < k → asB (anth l j) = true) ∧ Below w.heap.size w wr) (fun i _ => n - (intOf i).toNat)
  case atStart => exact ⟨0, Nat.zero_le _, rfl, fun j hj => by omega, Below.refl _ _⟩
  case round =>
    obtain ⟨k, hk, rfl, hall, hb⟩ := hrel
    have HA := Lib.hid hall
    have HB := Lib.hid hb
    clear hall hb
    by_cases hlt : k < n
    · have hlt' : (k : Int) < (n : Int) := by omega
      obtain ⟨b, off, rfl, hcell⟩ := HO.out (by omega)
      obtain ⟨x0, x1⟩ := hcell wr HB.out k hlt
      clear hcell
      cases hr : asB (anth l k)
      · have HE : Hid (assB l = false) := Lib.hid (all_not (l := l) (j := k) (by omega) hr)
        go_wp2_with fail
        refine (notSomeE _ _ _).mono ?_
        rintro e w1 ⟨rfl, hb1⟩
        have HB1 := Lib.hid (HB.out.trans (hb1.mono HB.out.size))
        have hr' : asB ⟨(anth l k).name, (anth l k).mon⟩ = false := hr
        rw [hr']
        clear hb1 x0 x1
        go_wp2_with fail
        go_ret
        exact ⟨k, rfl, by omega, ⟨fun h => by omega, fun h => by rw [HE.out] at h; cases h⟩, HB1.out⟩
      · go_wp2_with fail
        refine (notSomeE _ _ _).mono ?_
        rintro e w1 ⟨rfl, hb1⟩
        have HB1 := Lib.hid (HB.out.trans (hb1.mono HB.out.size))
        have hr' : asB ⟨(anth l k).name, (anth l k).mon⟩ = true := hr
        rw [hr']
        clear hb1 x0 x1
        go_wp2_with fail
        go_roundw
        case rel =>
          refine ⟨k + 1, by omega, by go_num, ?_, HB1.out⟩
          intro j hj
          by_cases e : j = k
          · subst e; exact hr
          · exact HA.out j (by omega)
        case measure => simp [intOf]; omega
    · have hkn : k = n := by omega
      subst hkn
      have HL : Hid (assB l = true) := Lib.hid (all_of (l := l) (fun j hj => HA.out j (by omega)))
      go_wp2_with fail
      go_ret
      exact ⟨-1, rfl, by omega, ⟨fun _ => HL.out, fun _ => rfl⟩, HB.out⟩
set_option maxHeartbeats 1000000 in
theorem containsSome (a : Option Addr) (n cap : Nat) (l : List Am) (w : World) (hc : CameA w a l) (hn : l.length = n) (hm : n ≤ maxLen) :
    Calls Try.prog 39 #[.slice a n cap, .func (.func 42) #[] #[]] w fun e w' => e = .returned (.bool (!assB l)) ∧ Below w.heap.size w w' := by
  have HC := Lib.hid hc
  have HM := Lib.hid hm
  clear hc hm
  go_enter Try.func39, Try.ntmps39
  go_wp2_with fail
  refine (indexSome a n cap l _ HC.out hn HM.out).mono ?_
  rintro e w1 ⟨i, rfl, hi, hall, hb⟩
  have HB := Lib.hid hb
  clear hb
  have HR : Hid ((!assB l) = decide (0 ≤ i)) := by
    unfold Hid
    cases h : assB l
    · rw [h] at hall
      have : i ≠ -1 := fun e => by have := hall.1 e; cases this
      simp; omega
    · obtain rfl := hall.2 h
      simp
  clear hall
  go_wp2_with fail
  go_ret
  exact ⟨kret_bool (by rw [HR.out]), HB.out⟩
set_option maxRecDepth 100000 in
set_option maxHeartbeats 1000000 in
theorem sum_any (a : Option Addr) (n cap : Nat) (l : List Am) (w : World) (hc : CameA w a l) (hn : l.length = n) (hok : ∀ r ∈ l, asB r = true) (h20 : n ≤ 20) :
    Calls Try.prog 44 #[.slice a n cap] w fun e w' => e = .returned (.int .i64 (sumA l)) ∧ Below w.heap.size w w' := by
  have HO := Lib.hid (fun h0 => hc.open hn h0)
  have HN := Lib.hid hn
  have HOK := Lib.hid hok
  clear hc hn hok
  go_enter Try.func44, Try.ntmps44
  go_wp2_with fail
  go_loopw [3, 8] (fun s i wr => ∃ k : Nat, k ≤ n ∧ i = .int .i64 k ∧ s = .int .i64 (sumA (l.take k)) ∧ Below w.heap.size w wr) (fun _ i _ => n - (intOf i).toNat)
  case atStart => exact ⟨0, Nat.zero_le _, rfl, rfl, Below.refl _ _⟩
  case round =>
    obtain ⟨k, hk, rfl, rfl, hb⟩ := hrel
    have HB := Lib.hid hb
    clear hb
    by_cases hlt : k < n
    · have hlt' : (k : Int) < (n : Int) := by omega
      obtain ⟨b, off, rfl, hcell⟩ := HO.out (by omega)
      obtain ⟨x0, x1⟩ := hcell wr HB.out k hlt
      clear hcell
      have HST := Lib.hid (sumA_step (l := l) (k := k) (by rw [HN.out]; exact hlt))
      have HBD := Lib.hid (sumA_bd (l := l.take k) (fun r hr => HOK.out r (List.mem_of_mem_take hr)))
      have HLK : Hid ((l.take k).length ≤ 20) := Lib.hid (by rw [List.length_take]; have := HN.out; omega)
      have HOT := Lib.hid (asB_bd (HOK.out _ (anth_mem (l := l) (j := k) (by rw [HN.out]; exact hlt))))
      obtain ⟨c, hcc⟩ : ∃ c, sumA (l.take k) = c := ⟨_, rfl⟩
      rw [hcc] at HST HBD
      rw [hcc]
      clear hcc
      obtain ⟨m, hm⟩ : ∃ m, (anth l k).mon = m := ⟨_, rfl⟩
      rw [hm] at x1 HST HOT
      obtain ⟨nm, hnm⟩ : ∃ nm, (anth l k).name = nm := ⟨_, rfl⟩
      rw [hnm] at x0
      clear hm hnm
      have hwrap : IntKind.i64.wrap (c + m) = c + m := IntWalk.i64_in _ (by
        have h1 := HBD.out
        have h2 := HLK.out
        have h3 := HOT.out
        omega)
      have HBX := Lib.hid (HB.out.trans ((kbelow_box wr (.cells #[.string nm, .int .i64 m] 60)).mono HB.out.size))
      go_wp2_with fail
      go_roundw
      case rel => exact ⟨k + 1, by omega, by go_num, by rw [HST.out], HBX.out⟩
      case measure => simp [intOf]; omega
    · have hkn : k = n := by omega
      subst hkn
      have HTK : Hid (l.take k = l) := Lib.hid (by rw [← HN.out, List.take_length])
      rw [HTK.out]
      go_wp2_with fail
      go_ret
      exact ⟨rfl, HB.out⟩
set_option maxRecDepth 100000 in
set_option maxHeartbeats 2000000 in
theorem checkEntry_any (d : Int) (a : Option Addr) (n cap : Nat) (l : List Am) (w : World) (hp : PsAt w a l) (hn : l.length = n) :
    Calls Try.prog 28 #[.agg #[.int .i64 d, .slice a n cap]] w fun e w' => e = .returned (.int .i64 (enE ⟨d, l⟩)) ∧ Below w.heap.size w w' := by
  have HC := Lib.hid hp.1
  have HM : Hid (n ≤ maxLen) := Lib.hid (by rw [← hn]; exact hp.2.2)
  have HN := Lib.hid hn
  have hm' : n ≤ 9223372036854775807 := by have := HM.out; unfold maxLen at this; omega
  have HE : Hid (enE ⟨d, l⟩ = if dayB d = false then 3 else if n < 2 ∨ 20 < n then 2 else if ansB l = false then 1 else if assB l = false then 3 else if sumA l = 0 then 0 else 4) := by unfold Hid enE; rw [hn]
  have HB0 := Lib.hid (kbelow_box w (.cells #[.int .i64 d, .slice a n cap] 29))
  clear hp hn
  cases hd : dayB d
  · rw [hd, if_pos rfl] at HE
    go_enter Try.func28, Try.ntmps28
    go_wp2_with (first | (go_at_call 36; refine (isDay_any _ _).mono ?_; rintro e w' ⟨rfl, h'⟩; subst w'; rw [hd]))
    go_ret
    exact ⟨kret_int HE.out.symm, HB0.out⟩
  · rw [hd, if_neg (by decide)] at HE
    by_cases h2 : n < 2
    · have h2' : (n : Int) < 2 := by omega
      rw [if_pos (.inl h2)] at HE
      go_enter Try.func28, Try.ntmps28
      go_wp2_with (first | (go_at_call 36; refine (isDay_any _ _).mono ?_; rintro e w' ⟨rfl, h'⟩; subst w'; rw [hd]))
      go_ret
      exact ⟨kret_int HE.out.symm, HB0.out⟩
    · have h2' : decide ((n : Int) < 2) = false := decide_eq_false (by omega)
      by_cases h20 : 20 < n
      · have h20' : (20 : Int) < (n : Int) := by omega
        rw [if_pos (.inr h20)] at HE
        go_enter Try.func28, Try.ntmps28
        go_wp2_with (first | (go_at_call 36; refine (isDay_any _ _).mono ?_; rintro e w' ⟨rfl, h'⟩; subst w'; rw [hd]))
        go_ret
        exact ⟨kret_int HE.out.symm, HB0.out⟩
      · have h20' : decide ((20 : Int) < (n : Int)) = false := decide_eq_false (by omega)
        rw [if_neg (by omega)] at HE
        have HSZ : Hid (n ≤ 20) := Lib.hid (by omega)
        clear h20 h2
        go_enter Try.func28, Try.ntmps28
        go_wp2_with (first | (go_at_call 36; refine (isDay_any _ _).mono ?_; rintro e w' ⟨rfl, h'⟩; subst w'; rw [hd]))
        refine (containsNames a n cap l _ (HC.out.below HB0.out) HN.out HM.out).mono ?_
        rintro e w1 ⟨rfl, hb1⟩
        have HB1 := Lib.hid (HB0.out.trans (hb1.mono HB0.out.size))
        have k1 : w1.cell? ⟨w.heap.size, 1, none⟩ = some (.slice a n cap) := (hb1.cell (p := ⟨w.heap.size, 1, none⟩) (by simp)).trans (by simp)
        clear hb1
        cases h1 : ansB l
        · rw [h1, if_pos rfl] at HE
          go_wp2_with fail
          go_ret
          exact ⟨kret_int HE.out.symm, HB1.out⟩
        · rw [h1, if_neg (by decide)] at HE
          go_wp2_with fail
          refine (containsSome a n cap l _ (HC.out.below HB1.out) HN.out HM.out).mono ?_
          rintro e w2 ⟨rfl, hb2⟩
          have HB2 := Lib.hid (HB1.out.trans (hb2.mono HB1.out.size))
          have k2 : w2.cell? ⟨w.heap.size, 1, none⟩ = some (.slice a n cap) := (hb2.cell (p := ⟨w.heap.size, 1, none⟩) (oblt_of_cell k1)).trans k1
          clear hb2 k1
          cases h3 : assB l
          · rw [h3, if_pos rfl] at HE
            go_wp2_with fail
            go_ret
            exact ⟨kret_int HE.out.symm, HB2.out⟩
          · rw [h3, if_neg (by decide)] at HE
            go_wp2_with fail
            refine (sum_any a n cap l _ (HC.out.below HB2.out) HN.out (List.all_eq_true.1 h3) HSZ.out).mono ?_
            rintro e w3 ⟨rfl, hb3⟩
            have HB3 := Lib.hid (HB2.out.trans (hb3.mono HB2.out.size))
            clear hb3
            by_cases h0 : sumA l = 0
            · rw [if_pos h0] at HE
              rw [h0]
              go_wp2_with fail
              go_ret
              exact ⟨kret_int HE.out.symm, HB3.out⟩
            · rw [if_neg h0] at HE
              have h0' : (sumA l != 0) = true := by simp [h0]
              obtain ⟨c, hc⟩ : ∃ c, sumA l = c := ⟨_, rfl⟩
              rw [hc] at h0' ⊢
              clear h0 hc
              go_wp2_with fail
              go_ret
              exact ⟨kret_int HE.out.symm, HB3.out⟩
set_option maxRecDepth 100000 in
set_option maxHeartbeats 2000000 in
theorem Check_any (a : Option Addr) (n cap : Nat) (l : List En) (w : World) (hc : CameE w a l) (hn : l.length = n) :
    Calls Try.prog 12 #[.slice a n cap] w fun e w' => e = .returned (.int .i64 (jrE l)) ∧ Below w.heap.size w w' := by
  have HO := Lib.hid (fun h0 => hc.open hn h0)
  have HN := Lib.hid hn
  have HE : Hid (jrE l = if 100 < l.length then 2 else if ensE l = 0 then (if upD l = true then 0 else 4) else ensE l) := rfl
  clear hc hn
  by_cases h400 : 100 < n
  · have h4 : (100 : Int) < (n : Int) := by omega
    have HR : Hid (jrE l = 2) := Lib.hid (by rw [HE.out, HN.out, if_pos h400])
    go_enter Try.func12, Try.ntmps12
    go_wp2_with fail
    go_ret
    exact ⟨kret_int HR.out.symm, Below.refl _ _⟩
  · have h4 : ¬ ((100 : Int) < (n : Int)) := by omega
    rw [HN.out, if_neg h400] at HE
    go_enter Try.func12, Try.ntmps12
    go_wp2_with fail
    go_loopw [12] (fun i wr => ∃ k : Nat, k ≤ n ∧ i = .int .i64 k ∧ (∀ j, j < k → enE (enth l j) = 0) ∧ Below w.heap.size w wr) (fun i _ => n - (intOf i).toNat)
    case atStart => exact ⟨0, Nat.zero_le _, rfl, fun j hj => by omega, Below.refl _ _⟩
    case round =>
      obtain ⟨k, hk, rfl, hall, hb⟩ := hrel
      have HA := Lib.hid hall
      have HB := Lib.hid hb
      clear hall hb
      by_cases hlt : k < n
      · have hlt' : (k : Int) < (n : Int) := by omega
        obtain ⟨b, off, rfl, hcell⟩ := HO.out (by omega)
        obtain ⟨ax, cx, x0, x1, hp⟩ := hcell wr HB.out k hlt
        clear hcell
        have HP := Lib.hid hp
        have HBX := Lib.hid (HB.out.trans (Below.mono (B := wr.heap.size) (kbelow_box wr (.cells #[.int .i64 (enth l k).day, .slice ax (enth l k).ps.length cx] 29)) HB.out.size))
        have HK := Lib.hid (fun w (hp : PsAt w ax _) => checkEntry_any (enth l k).day ax (enth l k).ps.length cx (enth l k).ps w hp rfl)
        clear hp
        by_cases hz : enE (enth l k) = 0
        · have HZ := Lib.hid hz
          have hz' : enE ⟨(enth l k).day, (enth l k).ps⟩ = 0 := hz
          rw [hz'] at HK
          clear hz hz'
          go_wp2_with fail
          refine (HK.out _ (HP.out.below (kbelow_box wr (.cells #[.int .i64 (enth l k).day, .slice ax (enth l k).ps.length cx] 29)))).mono ?_
          rintro e w1 ⟨rfl, hb1⟩
          have HB1 := Lib.hid (HBX.out.trans (hb1.mono HBX.out.size))
          clear hb1
          go_wp2_with fail
          go_roundw
          case rel =>
            refine ⟨k + 1, by omega, by go_num, ?_, HB1.out⟩
            intro j hj
            by_cases e : j = k
            · subst e; exact HZ.out
            · exact HA.out j (by omega)
          case measure => simp [intOf]; omega
        · have HR : Hid (jrE l = enE (enth l k)) := Lib.hid (by
            have e : ensE l = enE (enth l k) := ensE_at HA.out (by rw [HN.out]; exact hlt) hz
            rw [HE.out, e, if_neg hz])
          obtain ⟨c, hcc⟩ : ∃ c, enE (enth l k) = c := ⟨_, rfl⟩
          have hcc' : enE ⟨(enth l k).day, (enth l k).ps⟩ = c := hcc
          rw [hcc'] at HK
          rw [hcc] at HR hz
          have hz' : (c != 0) = true := by simp [hz]
          clear hcc hcc' hz
          go_wp2_with fail
          refine (HK.out _ (HP.out.below (kbelow_box wr (.cells #[.int .i64 (enth l k).day, .slice ax (enth l k).ps.length cx] 29)))).mono ?_
          rintro e w1 ⟨rfl, hb1⟩
          have HB1 := Lib.hid (HBX.out.trans (hb1.mono HBX.out.size))
          clear hb1
          go_wp2_with fail
          go_ret
          exact ⟨kret_int HR.out.symm, HB1.out⟩
      · have hkn : k = n := by omega
        subst hkn
        have HZ : Hid (ensE l = 0) := Lib.hid (ensE_ok (fun j hj => HA.out j (by rw [HN.out] at hj; exact hj)))
        rw [HZ.out, if_pos rfl] at HE
        clear HZ HA
        go_wp2_with fail
        generalize wr = wu at *
        go_loopw [6] (fun i wq => ∃ r : Nat, (r + 1 ≤ k ∨ r = 0) ∧ i = .int .i64 ((r : Int) + 1) ∧ Below w.heap.size w wq ∧ ∀ j, j < r → (enth l j).day ≤ (enth l (j + 1)).day) (fun i _ => k - (intOf i).toNat)
        case atStart => exact ⟨0, .inr rfl, rfl, HB.out, fun j hj => by omega⟩
        case round =>
          clear HB
          obtain ⟨r, hrk, rfl, hb, hall⟩ := hrel
          have HA := Lib.hid hall
          have HB := Lib.hid hb
          clear hall hb
          by_cases hlt : r + 1 < k
          · have hlt' : (r : Int) + 1 < (k : Int) := by omega
            have hlt0 : (r : Int) < (k : Int) := by omega
            obtain ⟨b, off, rfl, hcell⟩ := HO.out (by omega)
            have hx := hcell _ HB.out r (by omega)
            have hy := hcell _ HB.out (r + 1) (by omega)
            clear hcell
            obtain ⟨_, _, x0, _⟩ := hx; obtain ⟨_, _, y0, _⟩ := hy
            have hsub : (r : Int) + 1 - 1 = (r : Int) := by omega
            have htn : ((r : Int) + 1).toNat = r + 1 := by omega
            have HUN := Lib.hid (fun h => upD_not (l := l) (j := r) (by rw [HN.out]; exact hlt) h)
            obtain ⟨u, hu⟩ : ∃ u, (enth l r).day = u := ⟨_, rfl⟩
            obtain ⟨v, hv⟩ : ∃ v, (enth l (r + 1)).day = v := ⟨_, rfl⟩
            rw [hu] at x0 HUN
            rw [hv] at y0 HUN
            have HU := Lib.hid hu
            have HV := Lib.hid hv
            clear hu hv
            by_cases hd : u ≤ v
            · have hd1 : decide (v < u) = false := decide_eq_false (by omega)
              have HD := Lib.hid hd
              go_wp2_with fail
              go_quiet (fail)
              go_wp2_with fail
              go_roundw
              case rel =>
                refine ⟨r + 1, .inl (by omega), by go_num, kbelow_dN HB.out _, ?_⟩
                intro j hj
                by_cases e : j = r
                · subst e; rw [HU.out, HV.out]; exact HD.out
                · exact HA.out j (by omega)
              case measure => simp [intOf]; omega
            · have hd1 : v < u := by omega
              have HT := Lib.hid (HUN.out hd1)
              rw [HT.out] at HE
              go_wp2_with fail
              go_quiet (fail)
              go_wp2_with fail
              go_ret
              exact ⟨kret_int HE.out.symm, kbelow_dN HB.out _⟩
          · have hnl : ¬ ((r : Int) + 1 < (k : Int)) := by omega
            have HT : Hid (upD l = true) := upD_iff.2 (fun j hj => HA.out j (by rw [HN.out] at hj; omega))
            rw [HT.out] at HE
            go_wp2_with fail
            go_ret
            exact ⟨kret_int HE.out.symm, HB.out⟩
end Go.Proofs.Ytdgcfakbmhchdaa
