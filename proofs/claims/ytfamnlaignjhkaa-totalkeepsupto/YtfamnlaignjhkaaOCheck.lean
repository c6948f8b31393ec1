/-
  Promises M1, M4: when totals are right: the walks of checkEach, Check and the reference's CheckTotals.
-/
import Derived.Test.YtfamnlaignjhkaaOCmpT
import Derived.Lib.QuietBelow
namespace Go.Proofs.Ytfamnlaignjhkaa
open Go.RowKit Go.Sort

theorem isPerson_any (n : Int) (w : World) : Calls Try.prog 37 #[.int .i64 n] w fun e w' => e = .returned (.bool (perB n)) ∧ w' = w := by
  by_cases h1 : 1 ≤ n
  · by_cases h2 : n ≤ 999
    · have H : Hid (perB n = true) := decide_eq_true ⟨h1, h2⟩
      go_enter Try.func37, Try.ntmps37
      go_wp2
      go_ret
      exact ⟨oret_bool (by rw [H.out]; try (simp <;> omega)), rfl⟩
    · have H : Hid (perB n = false) := decide_eq_false (by omega)
      go_enter Try.func37, Try.ntmps37
      go_wp2
      go_ret
      exact ⟨oret_bool (by rw [H.out]; try (simp <;> omega)), rfl⟩
  · have H : Hid (perB n = false) := decide_eq_false (by omega)
    have hd : decide (1 ≤ n) = false := decide_eq_false h1
    go_enter Try.func37, Try.ntmps37
    go_wp2
    go_ret
    exact ⟨oret_bool (by rw [H.out]), rfl⟩
theorem isYear_any (n : Int) (w : World) : Calls Try.prog 38 #[.int .i64 n] w fun e w' => e = .returned (.bool (yrB n)) ∧ w' = w := by
  by_cases h1 : 2000 ≤ n
  · by_cases h2 : n ≤ 2199
    · have H : Hid (yrB n = true) := decide_eq_true ⟨h1, h2⟩
      go_enter Try.func38, Try.ntmps38
      go_wp2
      go_ret
      exact ⟨oret_bool (by rw [H.out]; try (simp <;> omega)), rfl⟩
    · have H : Hid (yrB n = false) := decide_eq_false (by omega)
      go_enter Try.func38, Try.ntmps38
      go_wp2
      go_ret
      exact ⟨oret_bool (by rw [H.out]; try (simp <;> omega)), rfl⟩
  · have H : Hid (yrB n = false) := decide_eq_false (by omega)
    have hd : decide (2000 ≤ n) = false := decide_eq_false h1
    go_enter Try.func38, Try.ntmps38
    go_wp2
    go_ret
    exact ⟨oret_bool (by rw [H.out]), rfl⟩
theorem isSome_any (n : Int) (w : World) : Calls Try.prog 29 #[.int .i64 n] w fun e w' => e = .returned (.bool (someB n)) ∧ w' = w := by
  by_cases h : n = 0
  · have h' : (n != 0) = false := by simp [h]
    have H : Hid (someB n = false) := Lib.hid (by unfold someB; simp [h])
    clear h
    go_enter Try.func29, Try.ntmps29
    go_wp2_with fail
    go_ret
    exact ⟨oret_bool H.out.symm, rfl⟩
  · have h' : (n != 0) = true := by simp [h]
    have H : Hid (someB n = monB n) := Lib.hid (by unfold someB; simp [h])
    clear h
    go_enter Try.func29, Try.ntmps29
    go_wp2_with (first | (go_at_call 42; refine (isMoney_any _ _).mono ?_; rintro e w' ⟨rfl, h'⟩; subst w'))
    go_ret
    exact ⟨oret_bool H.out.symm, rfl⟩
/-- Is its money right? -/
def kindB (loose : Bool) (n : Int) : Bool := if loose then monB n else someB n
/-- What is wrong with a total. -/
def wrongT (loose : Bool) (t : Tt) : Int := if perB t.per = true ∧ yrB t.yr = true ∧ kindB loose t.mon = true then (if namB t.nam = true then 0 else 1) else 3
/-- What is wrong with the first one with which something is. -/
def firstW (loose : Bool) : List Tt → Int
  | [] => 0
  | t :: r => if wrongT loose t = 0 then firstW loose r else wrongT loose t
theorem firstW_at {b : Bool} : ∀ {l : List Tt} {k : Nat}, (∀ j, j < k → wrongT b (onth l j) = 0) → k < l.length → wrongT b (onth l k) ≠ 0 → firstW b l = wrongT b (onth l k)
  | [], k, _, hk, _ => by simp at hk
  | t :: r, 0, _, _, hw => by
    have : onth (t :: r) 0 = t := rfl
    rw [this] at hw ⊢
    rw [firstW, if_neg hw]
  | t :: r, k + 1, h, hk, hw => by
    have h0 : wrongT b t = 0 := h 0 (by omega)
    rw [firstW, if_pos h0]
    exact firstW_at (l := r) (k := k) (fun j hj => h (j + 1) (by omega)) (by simpa using hk) hw
theorem firstW_ok {b : Bool} : ∀ {l : List Tt}, (∀ j, j < l.length → wrongT b (onth l j) = 0) → firstW b l = 0
  | [], _ => rfl
  | t :: r, h => by
    have h0 : wrongT b t = 0 := h 0 (by simp)
    rw [firstW, if_pos h0]
    exact firstW_ok (l := r) fun j hj => h (j + 1) (by simpa using hj)
theorem firstW_zero {b : Bool} : ∀ {l : List Tt}, firstW b l = 0 → ∀ t ∈ l, wrongT b t = 0
  | [], _, t, ht => by simp at ht
  | x :: r, h, t, ht => by
    rw [firstW] at h
    by_cases h0 : wrongT b x = 0
    · rw [if_pos h0] at h
      rcases List.mem_cons.1 ht with rfl | ht
      · exact h0
      · exact firstW_zero h t ht
    · rw [if_neg h0] at h
      exact absurd h h0
def checkE (loose : Bool) (l : List Tt) : Int := if 400 < l.length then 2 else firstW loose l
def upT (l : List Tt) : Bool := (List.range (l.length - 1)).all fun j => aheadT (onth l j) (onth l (j + 1))
def totE (l : List Tt) : Int := if checkE false l = 0 then (if upT l = true then 0 else 4) else checkE false l
theorem upT_iff {l : List Tt} : upT l = true ↔ ∀ j, j + 1 < l.length → aheadT (onth l j) (onth l (j + 1)) = true := by
  unfold upT
  rw [List.all_eq_true]
  constructor
  · intro h j hj
    exact h j (List.mem_range.2 (by omega))
  · intro h j hj
    exact h j (by have := List.mem_range.1 hj; omega)
theorem upT_not {l : List Tt} {j : Nat} (hj : j + 1 < l.length) (h : aheadT (onth l j) (onth l (j + 1)) = false) : upT l = false := by
  rw [Bool.eq_false_iff]
  intro e
  rw [upT_iff.1 e j hj] at h
  cases h
theorem or3_lt {x y z : Int} : or3 x y z < 0 ↔ x < 0 ∨ (x = 0 ∧ (y < 0 ∨ (y = 0 ∧ z < 0))) := by
  unfold or3
  by_cases h : x = 0
  · rw [if_pos h]
    by_cases h' : y = 0
    · rw [if_pos h']; omega
    · rw [if_neg h']; omega
  · rw [if_neg h]; omega
theorem cmpT_lt {a b : Tt} : cmpT a b < 0 ↔ aheadT a b = true := by
  unfold cmpT aheadT
  rw [or3_lt]
  have e1 : ciI a.per b.per < 0 ↔ a.per < b.per := by unfold ciI; split <;> (try split) <;> omega
  have e2 : ciI a.per b.per = 0 ↔ a.per = b.per := by unfold ciI; split <;> (try split) <;> omega
  have e3 : ciI a.yr b.yr < 0 ↔ a.yr < b.yr := by unfold ciI; split <;> (try split) <;> omega
  have e4 : ciI a.yr b.yr = 0 ↔ a.yr = b.yr := by unfold ciI; split <;> (try split) <;> omega
  have e5 : ciS a.nam b.nam < 0 ↔ ltS a.nam b.nam = true := by
    unfold ciS
    split
    · rename_i h; simp [h]
    · rename_i h; split <;> simp [h]
  rw [e1, e2, e3, e4, e5]
  by_cases h : a.per = b.per
  · rw [if_pos h]
    by_cases h' : a.yr = b.yr
    · rw [if_pos h']; simp [h, h']
    · rw [if_neg h']; simp [h, h']
  · rw [if_neg h]; simp [h]
set_option maxRecDepth 100000 in
set_option maxHeartbeats 2000000 in
theorem eachStrict (a : Option Addr) (n cap : Nat) (l : List Tt) (w : World) (hc : CameO w a l) (hn : l.length = n) :
    Calls Try.prog 28 #[.slice a n cap, .func (.func 29) #[] #[]] w fun e w' => e = .returned (.int .i64 (checkE false l)) ∧ Below w.heap.size w w' := by
  have HO := Lib.hid (fun h0 => hc.open hn h0)
  have HN := Lib.hid hn
  clear hc hn
  by_cases h400 : 400 < n
  · have h4 : (400 : Int) < (n : Int) := by omega
    have HE : Hid (checkE false l = 2) := Lib.hid (by unfold checkE; rw [HN.out, if_pos h400])
    go_enter Try.func28, Try.ntmps28
    go_wp2_with fail
    go_ret
    exact ⟨oret_int HE.out.symm, Below.refl _ _⟩
  · have h4 : ¬ ((400 : Int) < (n : Int)) := by omega
    have HE : Hid (checkE false l = firstW false l) := Lib.hid (by unfold checkE; rw [HN.out, if_neg h400])
    go_enter Try.func28, Try.ntmps28
    go_wp2_with fail
    go_loopw [12] (fun i wr => ∃ k : Nat, k ≤ n ∧ i = .int .i64 k ∧ (∀ j, j < k → wrongT false (onth l j) = 0) ∧ Below w.heap.size w wr) (fun i _ => n - (intOf i).toNat)
    case atStart => exact ⟨0, Nat.zero_le _, rfl, fun j hj => by omega, Below.refl _ _⟩
    case round =>
      obtain ⟨k, hk, rfl, hall, hb⟩ := hrel
      have HA := Lib.hid hall
      have HB := Lib.hid hb
      clear hall hb
      by_cases hlt : k < n
      · have hlt' : (k : Int) < (n : Int) := by omega
        obtain ⟨b, off, rfl, hcell⟩ := HO.out (by omega)
        obtain ⟨x0, x1, x2, x3⟩ := hcell wr HB.out k hlt
        clear hcell
        have HW : Hid (wrongT false (onth l k) ≠ 0 → checkE false l = wrongT false (onth l k)) := fun h => by rw [HE.out]; exact firstW_at HA.out (by rw [HN.out]; exact hlt) h
        have HB1 := Lib.hid (HB.out.trans ((obelow_box wr (.cells #[.int .i64 (onth l k).per, .string (onth l k).nam, .int .i64 (onth l k).yr, .int .i64 (onth l k).mon] 50)).mono HB.out.size))
        have HD : Hid (wrongT false (onth l k) = if perB (onth l k).per = true ∧ yrB (onth l k).yr = true ∧ someB (onth l k).mon = true then (if namB (onth l k).nam = true then 0 else 1) else 3) := rfl
        obtain ⟨t, ht⟩ : ∃ t, onth l k = t := ⟨_, rfl⟩
        rw [ht] at x0 x1 x2 x3 HW HB1 HD
        have HTK := Lib.hid ht
        clear ht
        cases hp : perB t.per
        · have HR : Hid (checkE false l = 3) := by
            have e : wrongT false t = 3 := by rw [HD.out, hp]; simp
            unfold Hid; rw [HW.out (by rw [e]; decide), e]
          go_wp2_with (first | (go_at_call 37; refine (isPerson_any _ _).mono ?_; rintro e w' ⟨rfl, h'⟩; subst w'; rw [hp]))
          go_ret
          exact ⟨oret_int HR.out.symm, HB1.out⟩
        · cases hy : yrB t.yr
          · have HR : Hid (checkE false l = 3) := by
              have e : wrongT false t = 3 := by rw [HD.out, hp, hy]; simp
              unfold Hid; rw [HW.out (by rw [e]; decide), e]
            go_wp2_with (first | (go_at_call 37; refine (isPerson_any _ _).mono ?_; rintro e w' ⟨rfl, h'⟩; subst w'; rw [hp]) | (go_at_call 38; refine (isYear_any _ _).mono ?_; rintro e w' ⟨rfl, h'⟩; subst w'; rw [hy]))
            go_ret
            exact ⟨oret_int HR.out.symm, HB1.out⟩
          · cases hmo : someB t.mon
            · have HR : Hid (checkE false l = 3) := by
                have e : wrongT false t = 3 := by rw [HD.out, hp, hy, hmo]; simp
                unfold Hid; rw [HW.out (by rw [e]; decide), e]
              go_wp2_with (first | (go_at_call 37; refine (isPerson_any _ _).mono ?_; rintro e w' ⟨rfl, h'⟩; subst w'; rw [hp]) | (go_at_call 38; refine (isYear_any _ _).mono ?_; rintro e w' ⟨rfl, h'⟩; subst w'; rw [hy]) | (go_at_call 29; refine (isSome_any _ _).mono ?_; rintro e w' ⟨rfl, h'⟩; subst w'; rw [hmo]))
              go_ret
              exact ⟨oret_int HR.out.symm, HB1.out⟩
            · go_wp2_with (first | (go_at_call 37; refine (isPerson_any _ _).mono ?_; rintro e w' ⟨rfl, h'⟩; subst w'; rw [hp]) | (go_at_call 38; refine (isYear_any _ _).mono ?_; rintro e w' ⟨rfl, h'⟩; subst w'; rw [hy]) | (go_at_call 29; refine (isSome_any _ _).mono ?_; rintro e w' ⟨rfl, h'⟩; subst w'; rw [hmo]))
              refine (IsName_any t.nam _).mono ?_
              rintro e w1 ⟨bn, rfl, hbn, hbel⟩
              have HB2 := Lib.hid (HB1.out.trans (hbel.mono HB1.out.size))
              clear hbel
              cases bn
              · have HR : Hid (checkE false l = 1) := by
                  have e : wrongT false t = 1 := by
                    rw [HD.out, hp, hy, hmo]
                    have : namB t.nam = false := decide_eq_false (fun h => by have := hbn.2 h; cases this)
                    rw [this]; simp
                  unfold Hid; rw [HW.out (by rw [e]; decide), e]
                clear hbn
                go_wp2_with fail
                go_ret
                exact ⟨oret_int HR.out.symm, HB2.out⟩
              · have HZ : Hid (wrongT false t = 0) := by
                  unfold Hid
                  rw [HD.out, hp, hy, hmo]
                  have : namB t.nam = true := decide_eq_true (hbn.1 rfl)
                  rw [this]; simp
                clear hbn
                go_wp2_with fail
                go_roundw
                case rel =>
                  refine ⟨k + 1, by omega, by go_num, ?_, HB2.out⟩
                  intro j hj
                  by_cases e : j = k
                  · subst e; rw [HTK.out]; exact HZ.out
                  · exact HA.out j (by omega)
                case measure => simp [intOf]; omega
      · have hkn : k = n := by omega
        subst hkn
        have HR : Hid (checkE false l = 0) := Lib.hid (by rw [HE.out]; exact firstW_ok (fun j hj => HA.out j (by rw [HN.out] at hj; exact hj)))
        go_wp2_with fail
        go_ret
        exact ⟨oret_int HR.out.symm, HB.out⟩
set_option maxRecDepth 100000 in
set_option maxHeartbeats 2000000 in
theorem eachLoose (a : Option Addr) (n cap : Nat) (l : List Tt) (w : World) (hc : CameO w a l) (hn : l.length = n) :
    Calls Try.prog 28 #[.slice a n cap, .func (.func 42) #[] #[]] w fun e w' => e = .returned (.int .i64 (checkE true l)) ∧ Below w.heap.size w w' := by
  have HO := Lib.hid (fun h0 => hc.open hn h0)
  have HN := Lib.hid hn
  clear hc hn
  by_cases h400 : 400 < n
  · have h4 : (400 : Int) < (n : Int) := by omega
    have HE : Hid (checkE true l = 2) := Lib.hid (by unfold checkE; rw [HN.out, if_pos h400])
    go_enter Try.func28, Try.ntmps28
    go_wp2_with fail
    go_ret
    exact ⟨oret_int HE.out.symm, Below.refl _ _⟩
  · have h4 : ¬ ((400 : Int) < (n : Int)) := by omega
    have HE : Hid (checkE true l = firstW true l) := Lib.hid (by unfold checkE; rw [HN.out, if_neg h400])
    go_enter Try.func28, Try.ntmps28
    go_wp2_with fail
    go_loopw [12] (fun i wr => ∃ k : Nat, k ≤ n ∧ i = .int .i64 k ∧ (∀ j, j < k → wrongT true (onth l j) = 0) ∧ Below w.heap.size w wr) (fun i _ => n - (intOf i).toNat)
    case atStart => exact ⟨0, Nat.zero_le _, rfl, fun j hj => by omega, Below.refl _ _⟩
    case round =>
      obtain ⟨k, hk, rfl, hall, hb⟩ := hrel
      have HA := Lib.hid hall
      have HB := Lib.hid hb
      clear hall hb
      by_cases hlt : k < n
      · have hlt' : (k : Int) < (n : Int) := by omega
        obtain ⟨b, off, rfl, hcell⟩ := HO.out (by omega)
        obtain ⟨x0, x1, x2, x3⟩ := hcell wr HB.out k hlt
        clear hcell
        have HW : Hid (wrongT true (onth l k) ≠ 0 → checkE true l = wrongT true (onth l k)) := fun h => by rw [HE.out]; exact firstW_at HA.out (by rw [HN.out]; exact hlt) h
        have HB1 := Lib.hid (HB.out.trans ((obelow_box wr (.cells #[.int .i64 (onth l k).per, .string (onth l k).nam, .int .i64 (onth l k).yr, .int .i64 (onth l k).mon] 50)).mono HB.out.size))
        have HD : Hid (wrongT true (onth l k) = if perB (onth l k).per = true ∧ yrB (onth l k).yr = true ∧ monB (onth l k).mon = true then (if namB (onth l k).nam = true then 0 else 1) else 3) := rfl
        obtain ⟨t, ht⟩ : ∃ t, onth l k = t := ⟨_, rfl⟩
        rw [ht] at x0 x1 x2 x3 HW HB1 HD
        have HTK := Lib.hid ht
        clear ht
        cases hp : perB t.per
        · have HR : Hid (checkE true l = 3) := by
            have e : wrongT true t = 3 := by rw [HD.out, hp]; simp
            unfold Hid; rw [HW.out (by rw [e]; decide), e]
          go_wp2_with (first | (go_at_call 37; refine (isPerson_any _ _).mono ?_; rintro e w' ⟨rfl, h'⟩; subst w'; rw [hp]))
          go_ret
          exact ⟨oret_int HR.out.symm, HB1.out⟩
        · cases hy : yrB t.yr
          · have HR : Hid (checkE true l = 3) := by
              have e : wrongT true t = 3 := by rw [HD.out, hp, hy]; simp
              unfold Hid; rw [HW.out (by rw [e]; decide), e]
            go_wp2_with (first | (go_at_call 37; refine (isPerson_any _ _).mono ?_; rintro e w' ⟨rfl, h'⟩; subst w'; rw [hp]) | (go_at_call 38; refine (isYear_any _ _).mono ?_; rintro e w' ⟨rfl, h'⟩; subst w'; rw [hy]))
            go_ret
            exact ⟨oret_int HR.out.symm, HB1.out⟩
          · cases hmo : monB t.mon
            · have HR : Hid (checkE true l = 3) := by
                have e : wrongT true t = 3 := by rw [HD.out, hp, hy, hmo]; simp
                unfold Hid; rw [HW.out (by rw [e]; decide), e]
              go_wp2_with (first | (go_at_call 37; refine (isPerson_any _ _).mono ?_; rintro e w' ⟨rfl, h'⟩; subst w'; rw [hp]) | (go_at_call 38; refine (isYear_any _ _).mono ?_; rintro e w' ⟨rfl, h'⟩; subst w'; rw [hy]) | (go_at_call 42; refine (isMoney_any _ _).mono ?_; rintro e w' ⟨rfl, h'⟩; subst w'; rw [hmo]))
              go_ret
              exact ⟨oret_int HR.out.symm, HB1.out⟩
            · go_wp2_with (first | (go_at_call 37; refine (isPerson_any _ _).mono ?_; rintro e w' ⟨rfl, h'⟩; subst w'; rw [hp]) | (go_at_call 38; refine (isYear_any _ _).mono ?_; rintro e w' ⟨rfl, h'⟩; subst w'; rw [hy]) | (go_at_call 42; refine (isMoney_any _ _).mono ?_; rintro e w' ⟨rfl, h'⟩; subst w'; rw [hmo]))
              refine (IsName_any t.nam _).mono ?_
              rintro e w1 ⟨bn, rfl, hbn, hbel⟩
              have HB2 := Lib.hid (HB1.out.trans (hbel.mono HB1.out.size))
              clear hbel
              cases bn
              · have HR : Hid (checkE true l = 1) := by
                  have e : wrongT true t = 1 := by
                    rw [HD.out, hp, hy, hmo]
                    have : namB t.nam = false := decide_eq_false (fun h => by have := hbn.2 h; cases this)
                    rw [this]; simp
                  unfold Hid; rw [HW.out (by rw [e]; decide), e]
                clear hbn
                go_wp2_with fail
                go_ret
                exact ⟨oret_int HR.out.symm, HB2.out⟩
              · have HZ : Hid (wrongT true t = 0) := by
                  unfold Hid
                  rw [HD.out, hp, hy, hmo]
                  have : namB t.nam = true := decide_eq_true (hbn.1 rfl)
                  rw [this]; simp
                clear hbn
                go_wp2_with fail
                go_roundw
                case rel =>
                  refine ⟨k + 1, by omega, by go_num, ?_, HB2.out⟩
                  intro j hj
                  by_cases e : j = k
                  · subst e; rw [HTK.out]; exact HZ.out
                  · exact HA.out j (by omega)
                case measure => simp [intOf]; omega
      · have hkn : k = n := by omega
        subst hkn
        have HR : Hid (checkE true l = 0) := Lib.hid (by rw [HE.out]; exact firstW_ok (fun j hj => HA.out j (by rw [HN.out] at hj; exact hj)))
        go_wp2_with fail
        go_ret
        exact ⟨oret_int HR.out.symm, HB.out⟩
end Go.Proofs.Ytfamnlaignjhkaa
