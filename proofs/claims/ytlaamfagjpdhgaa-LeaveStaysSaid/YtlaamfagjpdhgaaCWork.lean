/-
  Promise B4: walks of areDays, rise, check, freeDays, isWorkday: lists of ints that came in, and a set of the call's own.
-/
import Derived.Test.YtlaamfagjpdhgaaCPrint
import Derived.Maps.OwnSet
import Derived.Maps.AppendAt
namespace Go.Proofs.Ytlaamfagjpdhgaa
open Go.RowKit Go.Maps

theorem nth_all {P : Int → Bool} {l : List Int} (h : l.all P = true) {j : Nat} (hj : j < l.length) : P (nth l j) = true := by
  have : nth l j ∈ l := by
    unfold nth
    rw [List.getD_eq_getElem?_getD, List.getElem?_eq_getElem hj]
    exact List.getElem_mem hj
  exact List.all_eq_true.1 h _ this
theorem all_nth {P : Int → Bool} {l : List Int} (h : ∀ j, j < l.length → P (nth l j) = true) : l.all P = true := by
  rw [List.all_eq_true]
  intro x hx
  obtain ⟨j, hj, rfl⟩ := List.mem_iff_getElem.1 hx
  have := h j hj
  simpa [nth, List.getD_eq_getElem?_getD, hj] using this
theorem not_all_nth {P : Int → Bool} {l : List Int} {j : Nat} (hj : j < l.length) (h : P (nth l j) = false) : l.all P = false := by
  rw [Bool.eq_false_iff]
  intro e
  rw [nth_all e hj] at h
  cases h
theorem dayB_iff {x : Int} : dayB x = true ↔ 0 ≤ x ∧ x ≤ 73048 := by unfold dayB; exact decide_eq_true_iff
theorem dayB_not {x : Int} : dayB x = false ↔ ¬ (0 ≤ x ∧ x ≤ 73048) := by unfold dayB; exact decide_eq_false_iff_not

set_option maxHeartbeats 1000000 in
theorem areDays_at (b off n cap : Nat) (l : List Int) (w : World) (hc : ∀ k, k < n → w.cell? ⟨b, off + k, none⟩ = some (.int .i64 (nth l k))) (hn : l.length = n) (hm : n ≤ 60) :
    Calls Try.prog 87 #[.slice (some ⟨b, off, none⟩) n cap] w fun e w' => e = .returned (.bool (l.all dayB)) ∧ w' = w := by
  have HC := Lib.hid hc
  clear hc
  go_enter Try.func87, Try.ntmps87
  go_wp2_with fail
  go_loop [7] (fun i => ∃ k : Nat, k ≤ n ∧ i = .int .i64 k ∧ ∀ j, j < k → dayB (nth l j) = true) (fun i => n - (intOf i).toNat)
  case atStart => exact ⟨0, Nat.zero_le _, rfl, fun j hj => by omega⟩
  case round =>
    obtain ⟨k, hk, rfl, hall⟩ := hrel
    have HA := Lib.hid hall
    clear hall
    by_cases hlt : k < n
    · have hlt' : (k : Int) < (n : Int) := by omega
      have x1 := HC.out k hlt
      cases hr : dayB (nth l k)
      · have HF := Lib.hid (not_all_nth (l := l) (j := k) (by omega) hr)
        go_wp2_with (go_at_call 38; refine (isDay_any _ _).mono ?_; rintro e w' ⟨rfl, rfl⟩)
        go_ret
        exact ⟨cret_bool HF.out.symm, rfl⟩
      · go_wp2_with (go_at_call 38; refine (isDay_any _ _).mono ?_; rintro e w' ⟨rfl, rfl⟩)
        go_round
        case rel =>
          refine ⟨k + 1, by omega, by go_num, ?_⟩
          intro j hj
          by_cases e : j = k
          · subst e; exact hr
          · exact HA.out j (by omega)
        case measure => simp [intOf]; omega
    · have hkn : k = n := by omega
      subst hkn
      have HF := Lib.hid (all_nth (l := l) (P := dayB) (fun j hj => HA.out j (by omega)))
      go_wp2_with fail
      go_ret
      exact ⟨cret_bool HF.out.symm, rfl⟩
theorem areDays_none (a : Option Addr) (cap : Nat) (w : World) :
    Calls Try.prog 87 #[.slice a 0 cap] w fun e w' => e = .returned (.bool true) ∧ w' = w := by
  go_enter Try.func87, Try.ntmps87
  go_wp2
  refine wp_loop_rounds 1 ?_
  rw [rounds_succ]
  go_wp2
  go_ret
  exact ⟨rfl, rfl⟩
theorem areDays_any (a : Option Addr) (n cap : Nat) (l : List Int) (w : World) (hc : Came w a l) (hn : l.length = n) (hm : n ≤ 60) :
    Calls Try.prog 87 #[.slice a n cap] w fun e w' => e = .returned (.bool (l.all dayB)) ∧ w' = w := by
  rcases hc with h | ⟨b, off, rfl, h⟩
  · have : l = [] := List.eq_nil_of_length_eq_zero h
    subst this
    subst hn
    exact areDays_none a cap w
  · exact areDays_at b off n cap l w (fun k hk => h.cell (by omega)) hn hm

/-- Do the numbers rise? -/
def riseB (l : List Int) : Bool := (List.range (l.length - 1)).all fun j => decide (nth l j < nth l (j + 1))
theorem riseB_iff {l : List Int} : riseB l = true ↔ ∀ j, j + 1 < l.length → nth l j < nth l (j + 1) := by
  unfold riseB
  rw [List.all_eq_true]
  constructor
  · intro h j hj
    exact of_decide_eq_true (h j (List.mem_range.2 (by omega)))
  · intro h j hj
    exact decide_eq_true (h j (by have := List.mem_range.1 hj; omega))
theorem riseB_not {l : List Int} {j : Nat} (hj : j + 1 < l.length) (h : nth l (j + 1) ≤ nth l j) : riseB l = false := by
  rw [Bool.eq_false_iff]
  intro e
  have := riseB_iff.1 e j hj
  omega

set_option maxHeartbeats 1000000 in
theorem rise_at (b off n cap : Nat) (l : List Int) (w : World) (hc : ∀ k, k < n → w.cell? ⟨b, off + k, none⟩ = some (.int .i64 (nth l k))) (hn : l.length = n) (hm : n ≤ 60) :
    Calls Try.prog 88 #[.slice (some ⟨b, off, none⟩) n cap] w fun e w' => e = .returned (.bool (riseB l)) ∧ ∃ k, w' = w.drewN k := by
  have HC := Lib.hid hc
  clear hc
  go_enter Try.func88, Try.ntmps88
  go_wp2_with fail
  go_loopw [3] (fun i wr => ∃ k q : Nat, (k + 1 ≤ n ∨ k = 0) ∧ i = .int .i64 ((k : Int) + 1) ∧ wr = w.drewN q ∧ ∀ j, j < k → nth l j < nth l (j + 1)) (fun i _ => n - (intOf i).toNat)
  case atStart => exact ⟨0, 0, .inr rfl, rfl, rfl, fun j hj => by omega⟩
  case round =>
    obtain ⟨k, q, hk, rfl, rfl, hall⟩ := hrel
    have HA := Lib.hid hall
    clear hall
    by_cases hlt : k + 1 < n
    · have hlt' : (k : Int) + 1 < (n : Int) := by omega
      have hlt0 : (k : Int) < (n : Int) := by omega
      have x1 := HC.out k (by omega)
      have x2 := HC.out (k + 1) (by omega)
      have hsub : (k : Int) + 1 - 1 = (k : Int) := by omega
      have htn : ((k : Int) + 1).toNat = k + 1 := by omega
      by_cases hr : nth l (k + 1) ≤ nth l k
      · have HF := Lib.hid (riseB_not (l := l) (j := k) (by omega) hr)
        go_wp2_with fail
        go_quiet (fail)
        go_wp2_with fail
        go_ret
        exact ⟨cret_bool HF.out.symm, _, by first | exact rfl | exact World.drewN_drewN | exact World.drewN_drewN _ _ _⟩
      · have hrB : decide (nth l (k + 1) ≤ nth l k) = false := decide_eq_false hr
        go_wp2_with fail
        go_quiet (fail)
        go_wp2_with fail
        go_roundw
        case rel =>
          refine ⟨k + 1, _, .inl (by omega), by go_num, rfl, ?_⟩
          intro j hj
          by_cases e : j = k
          · subst e; omega
          · exact HA.out j (by omega)
        case measure => simp [intOf]; omega
    · have hnl : ¬ ((k : Int) + 1 < (n : Int)) := by omega
      have HF := Lib.hid (riseB_iff (l := l).2 (fun j hj => HA.out j (by omega)))
      go_wp2_with fail
      go_ret
      exact ⟨cret_bool HF.out.symm, _, rfl⟩
theorem rise_none (a : Option Addr) (cap : Nat) (w : World) :
    Calls Try.prog 88 #[.slice a 0 cap] w fun e w' => e = .returned (.bool true) ∧ ∃ k, w' = w.drewN k := by
  go_enter Try.func88, Try.ntmps88
  go_wp2
  refine wp_loop_rounds 1 ?_
  rw [rounds_succ]
  go_wp2
  go_ret
  exact ⟨rfl, 0, rfl⟩
theorem rise_any (a : Option Addr) (n cap : Nat) (l : List Int) (w : World) (hc : Came w a l) (hn : l.length = n) (hm : n ≤ 60) :
    Calls Try.prog 88 #[.slice a n cap] w fun e w' => e = .returned (.bool (riseB l)) ∧ ∃ k, w' = w.drewN k := by
  rcases hc with h | ⟨b, off, rfl, h⟩
  · have : l = [] := List.eq_nil_of_length_eq_zero h
    subst this
    subst hn
    exact rise_none a cap w
  · exact rise_at b off n cap l w (fun k hk => h.cell (by omega)) hn hm

/-- What is wrong with holidays and the days asked for. -/
def checkE (l q : List Int) : Int := if 60 < l.length then 2 else if q.all dayB = false ∨ l.all dayB = false then 3 else if riseB l = false then 4 else 0
theorem checkE_ok {l q : List Int} (h : checkE l q = 0) : l.length ≤ 60 ∧ q.all dayB = true ∧ l.all dayB = true ∧ riseB l = true := by
  unfold checkE at h
  split at h
  · cases h
  · split at h
    · cases h
    · split at h
      · cases h
      · rename_i h1 h2 h3
        rw [not_or] at h2
        refine ⟨by omega, ?_, ?_, ?_⟩
        · simpa using h2.1
        · simpa using h2.2
        · simpa using h3

set_option maxHeartbeats 1000000 in
theorem check_any (a : Option Addr) (n cap : Nat) (l : List Int) (a2 : Option Addr) (m c2 : Nat) (q : List Int) (w : World) (hc : Came w a l) (hn : l.length = n) (hm : n ≤ maxLen) (hc2 : Came w a2 q) (hq : q.length = m) (hm2 : m ≤ 60) :
    Calls Try.prog 73 #[.slice a n cap, .slice a2 m c2] w fun e w' => e = .returned (.int .i64 (checkE l q)) ∧ ∃ k, w' = w.drewN k := by
  have hm' : n ≤ 9223372036854775807 := by unfold maxLen at hm; omega
  clear hm
  by_cases h60 : 60 < n
  · have HE : Hid (checkE l q = 2) := by unfold Hid checkE; rw [if_pos (by omega)]
    have h60' : (60 : Int) < (n : Int) := by omega
    go_enter Try.func73, Try.ntmps73
    go_wp2_with fail
    go_ret
    exact ⟨cret_int HE.out.symm, 0, rfl⟩
  · have h60' : ¬ ((60 : Int) < (n : Int)) := by omega
    have HQ := Lib.hid (areDays_any a2 m c2 q w hc2 hq hm2)
    have HL := Lib.hid (areDays_any a n cap l w hc hn (by omega))
    have HRI := Lib.hid (rise_any a n cap l w hc hn (by omega))
    clear hc hc2
    have HE0 : Hid (checkE l q = if q.all dayB = false ∨ l.all dayB = false then 3 else if riseB l = false then 4 else 0) := by unfold Hid checkE; rw [if_neg (by omega)]
    clear hn hq
    generalize q.all dayB = bq at *
    generalize l.all dayB = bl at *
    generalize riseB l = br at *
    generalize checkE l q = ce at *
    clear hm2
    go_enter Try.func73, Try.ntmps73
    go_wp2_with fail
    refine HQ.out.mono ?_
    rintro e w1 ⟨rfl, rfl⟩
    cases bq
    · have HE : Hid (ce = 3) := by unfold Hid; rw [HE0.out]; simp
      go_wp2_with fail
      go_ret
      exact ⟨cret_int HE.out.symm, 0, rfl⟩
    · go_wp2_with fail
      refine HL.out.mono ?_
      rintro e w2 ⟨rfl, rfl⟩
      cases bl
      · have HE : Hid (ce = 3) := by unfold Hid; rw [HE0.out]; simp
        go_wp2_with fail
        go_ret
        exact ⟨cret_int HE.out.symm, 0, rfl⟩
      · go_wp2_with fail
        refine HRI.out.mono ?_
        rintro e w3 ⟨rfl, kd, rfl⟩
        cases br
        · have HE : Hid (ce = 4) := by unfold Hid; rw [HE0.out]; simp
          go_wp2_with fail
          go_ret
          exact ⟨cret_int HE.out.symm, _, rfl⟩
        · have HE : Hid (ce = 0) := by unfold Hid; rw [HE0.out]; simp
          go_wp2_with fail
          go_ret
          exact ⟨cret_int HE.out.symm, _, rfl⟩

theorem intLaw : Keyed Try.prog 3 := int_keyed Try.underlying3
theorem zeroUnit (w : World) : (zeroValue 109).run Try.prog w = .ok (.agg #[]) w := by kernel_rfl
theorem make_set (k : Int) (w : World) : (Instr.makeMap 98 (some (.int .i64 k))).run Try.prog w = .ok (.map (some w.heap.size)) (w.alloc (.map #[] 0)) := by
  simp [Instr.makeMap, run_underlying Try.underlying98, asInt, asIntOf, Result.andThen]
/-- The set in block b holds the numbers l. -/
def SetIs (w : World) (b n : Nat) (l : List Int) : Prop := ∃ D : DataW Unit, w.ownsMap Try.prog 3 (unitElem (H := Unit)) b n D ∧ ∀ x, Maps.has D (.int .i64 x) = l.contains x
theorem SetIs.alloc {w : World} {b n : Nat} {l : List Int} (h : SetIs w b n l) (o : Obj) : SetIs (w.alloc o) b n l := by
  obtain ⟨D, h1, h2⟩ := h
  exact ⟨D, h1.alloc o, h2⟩
theorem take_contains {l : List Int} {k : Nat} (hk : k < l.length) (x : Int) : (l.take (k + 1)).contains x = (x == nth l k || (l.take k).contains x) := by
  rw [List.take_add_one, List.getElem?_eq_getElem hk]
  have : nth l k = l[k] := by simp [nth, List.getD_eq_getElem?_getD, hk]
  rw [this, Bool.eq_iff_iff]
  simp only [Option.toList, List.contains_eq_mem, List.mem_append, List.mem_singleton, decide_eq_true_eq, Bool.or_eq_true, beq_iff_eq]
  exact or_comm
theorem key_day {x : Int} (h : dayB x = true) : keyOf Try.prog 3 (.int .i64 x) = some (.int .i64 x) := by
  have := dayB_iff.1 h
  exact keyOf_int_mk Try.underlying3 (WalkArith.wf_i64 (by omega))
theorem set_put {D : DataW Unit} {l : List Int} {k : Nat} (hm : IsMap D) (hk : k < l.length) (h : ∀ x, Maps.has D (.int .i64 x) = (l.take k).contains x) (x : Int) :
    Maps.has (D.put (.int .i64 (nth l k)) (.agg [])) (.int .i64 x) = (l.take (k + 1)).contains x := by
  rw [take_contains hk]
  by_cases e : x = nth l k
  · subst e
    rw [has_put_same hm (show WideAt.IsKeyLit (.int .i64 (nth l k)) from trivial)]
    simp
  · rw [has_put_other (by intro q; cases q; exact e rfl), h]
    simp [e]

set_option maxHeartbeats 1000000 in
theorem freeDays_at (b off n cap : Nat) (l : List Int) (w : World) (hb : b < w.heap.size) (hc : ∀ k, k < n → w.cell? ⟨b, off + k, none⟩ = some (.int .i64 (nth l k))) (hn : l.length = n) (hm : n ≤ 60) (hd : l.all dayB = true) :
    Calls Try.prog 75 #[.slice (some ⟨b, off, none⟩) n cap] w fun e w' => e = .returned (.map (some w.heap.size)) ∧ SetIs w' w.heap.size n l ∧ Below w.heap.size w w' := by
  have HC := Lib.hid hc
  have HD := Lib.hid hd
  have hmm := make_set
  clear hc hd
  go_enter Try.func75, Try.ntmps75
  go_wp2_with fail
  go_loopw [11] (fun i wr => ∃ k : Nat, k ≤ n ∧ i = .int .i64 k ∧ SetIs wr w.heap.size k (l.take k) ∧ Below w.heap.size w wr) (fun i _ => n - (intOf i).toNat)
  case atStart => exact ⟨0, Nat.zero_le _, rfl, ⟨.map [], World.ownsMap_made _ _ _ _, fun x => by simp [Maps.has]⟩, (Below.refl _ _).alloc (Nat.le_refl _) _⟩
  case round =>
    obtain ⟨k, hk, rfl, ⟨D, hown, hD⟩, hnx⟩ := hrel
    have HS := Lib.hid hD
    have HN := Lib.hid hnx
    clear hD hnx
    by_cases hlt : k < n
    · have hlt' : (k : Int) < (n : Int) := by omega
      have x1 : wr.cell? ⟨b, off + k, none⟩ = some (.int .i64 (nth l k)) := (HN.out.cell (p := ⟨b, off + k, none⟩) hb).trans (HC.out k hlt)
      have hkey := key_day (nth_all HD.out (j := k) (by omega))
      go_wp2_with (first
        | (at_mapUpdate; refine wpList_mapUpdate_own _ rfl _ _ _ 98 rfl 3 109 intLaw Try.underlying98 (unitElem (H := Unit)) w.heap.size k _ rfl hown (by unfold maxLen; omega) _ _ _ rfl rfl hkey _ [] unitElem_mk ?_; intro w1 hown1 hgrow1))
      go_roundw
      case rel =>
        exact ⟨k + 1, by omega, by go_num, ⟨_, hown1, set_put hown.isMap (by omega) HS.out⟩, HN.out.grown hgrow1 HN.out.size (fun j hj => by cases hj; exact Nat.le_refl _)⟩
      case measure => simp [intOf]; omega
    · have hkn : k = n := by omega
      subst hkn
      go_wp2_with fail
      go_ret
      refine ⟨rfl, ⟨D, hown, fun x => ?_⟩, HN.out⟩
      rw [HS.out, ← hn, List.take_length]
theorem freeDays_none (a : Option Addr) (cap : Nat) (w : World) :
    Calls Try.prog 75 #[.slice a 0 cap] w fun e w' => e = .returned (.map (some w.heap.size)) ∧ SetIs w' w.heap.size 0 [] ∧ Below w.heap.size w w' := by
  have hmm := make_set
  go_enter Try.func75, Try.ntmps75
  go_wp2
  refine wp_loop_rounds 1 ?_
  rw [rounds_succ]
  go_wp2
  go_ret
  exact ⟨rfl, ⟨.map [], World.ownsMap_made _ _ _ _, fun x => by simp [Maps.has]⟩, (Below.refl _ _).alloc (Nat.le_refl _) _⟩
theorem freeDays_any (a : Option Addr) (n cap : Nat) (l : List Int) (w : World) (hc : Came w a l) (hn : l.length = n) (hm : n ≤ 60) (hd : l.all dayB = true) :
    Calls Try.prog 75 #[.slice a n cap] w fun e w' => e = .returned (.map (some w.heap.size)) ∧ SetIs w' w.heap.size n l ∧ Below w.heap.size w w' := by
  rcases hc with h | ⟨b, off, rfl, h⟩
  · have : l = [] := List.eq_nil_of_length_eq_zero h
    subst this
    subst hn
    exact freeDays_none a cap w
  · exact freeDays_at b off n cap l w h.1 (fun k hk => h.cell (by omega)) hn hm hd

/-- Is it a workday? -/
def workB (l : List Int) (x : Int) : Bool := decide (wkd x < 5) && !l.contains x
set_option maxHeartbeats 1000000 in
theorem isWorkday_any (x : Int) (b n : Nat) (l : List Int) (w : World) (hx : dayB x = true) (hs : SetIs w b n l) :
    Calls Try.prog 76 #[.int .i64 x, .map (some b)] w fun e w' => e = .returned (.bool (workB l x)) ∧ w' = w.alloc (.cells #[] 109) := by
  obtain ⟨D, hown, hD⟩ := hs
  have hkey := key_day hx
  obtain ⟨h0, h1⟩ := dayB_iff.1 hx
  have HW : Hid (workB l x = (decide (wkd x < 5) && !Maps.has D (.int .i64 x))) := by unfold Hid workB; rw [hD]
  clear hD
  by_cases hw : wkd x < 5
  · go_enter Try.func76, Try.ntmps76
    go_wp2_with (first
      | (at_lookup; refine wpList_lookup_own_unit _ rfl _ _ 98 rfl 3 109 intLaw Try.underlying98 (zeroUnit _) b n _ rfl hown _ _ rfl hkey ?_)
      | (go_at_call 89; refine (weekday_any _ _ (by omega) (by omega)).mono ?_; rintro e w' ⟨rfl, rfl⟩))
    go_ret
    exact ⟨cret_bool (by rw [HW.out]; simp [hw]), rfl⟩
  · have hwB : decide (wkd x < 5) = false := decide_eq_false hw
    go_enter Try.func76, Try.ntmps76
    go_wp2_with (first
      | (at_lookup; refine wpList_lookup_own_unit _ rfl _ _ 98 rfl 3 109 intLaw Try.underlying98 (zeroUnit _) b n _ rfl hown _ _ rfl hkey ?_)
      | (go_at_call 89; refine (weekday_any _ _ (by omega) (by omega)).mono ?_; rintro e w' ⟨rfl, rfl⟩))
    go_ret
    exact ⟨cret_bool (by rw [HW.out]; simp [hwB]), rfl⟩

/-- The next workday, or that there is none. -/
def NextIs (l : List Int) (d r e : Int) : Prop := (e = 0 ∧ d ≤ r ∧ r ≤ 73048 ∧ workB l r = true ∧ ∀ j, d ≤ j → j < r → workB l j = false) ∨ (e = 5 ∧ r = 0 ∧ ∀ j, d ≤ j → j ≤ 73048 → workB l j = false)
theorem NextIs.unique {l : List Int} {d r e r' e' : Int} (h : NextIs l d r e) (h' : NextIs l d r' e') : r = r' ∧ e = e' := by
  rcases h with ⟨a1, a2, a3, a4, a5⟩ | ⟨a1, a2, a3⟩ <;> rcases h' with ⟨b1, b2, b3, b4, b5⟩ | ⟨b1, b2, b3⟩
  · refine ⟨?_, by omega⟩
    by_cases h1 : r < r'
    · rw [b5 r a2 h1] at a4; cases a4
    · by_cases h2 : r' < r
      · rw [a5 r' b2 h2] at b4; cases b4
      · omega
  · rw [b3 r a2 a3] at a4; cases a4
  · rw [a3 r' b2 b3] at b4; cases b4
  · exact ⟨by omega, by omega⟩

set_option maxHeartbeats 1000000 in
theorem firstWorkday_next (d : Int) (a : Option Addr) (n cap : Nat) (l : List Int) (w : World) (hday : dayB d = true) (hc : Came w a l) (hn : l.length = n) (hm : n ≤ 60) (hd : l.all dayB = true) :
    Calls Try.prog 74 #[.int .i64 d, .int .i64 1, .slice a n cap] w fun e w' => ∃ r er : Int, e = .returned (.tuple #[.int .i64 r, .int .i64 er]) ∧ NextIs l d r er ∧ Below w.heap.size w w' := by
  obtain ⟨hd0, hd1⟩ := dayB_iff.1 hday
  have HF := Lib.hid (freeDays_any a n cap l w hc hn hm hd)
  clear hc hday hd
  go_enter Try.func74, Try.ntmps74
  go_wp2_with fail
  refine HF.out.mono ?_
  rintro e w1 ⟨rfl, hs1, hb1⟩
  have HS1 := Lib.hid hs1
  have HB1 := Lib.hid hb1
  clear hs1 hb1 HF
  go_wp2_with fail
  go_loopw [0] (fun dv wr => ∃ x : Int, dv = .int .i64 x ∧ d ≤ x ∧ x ≤ 73049 ∧ (∀ j, d ≤ j → j < x → workB l j = false) ∧ SetIs wr w.heap.size n l ∧ Below w.heap.size w wr) (fun dv _ => 73050 - (intOf dv).toNat)
  case atStart => exact ⟨d, rfl, by omega, by omega, fun j h1 h2 => by omega, HS1.out, HB1.out⟩
  case round =>
    obtain ⟨x, rfl, hx0, hx1, hall, hs, hb⟩ := hrel
    have HA := Lib.hid hall
    have HS := Lib.hid hs
    have HB := Lib.hid hb
    clear hall hs hb
    cases hdx : dayB x
    · have hx : x = 73049 := by have := dayB_not.1 hdx; omega
      subst hx
      go_wp2_with (go_at_call 38; refine (isDay_any _ _).mono ?_; rintro e w' ⟨rfl, rfl⟩)
      go_ret2
      exact ⟨_, _, rfl, .inr ⟨rfl, rfl, fun j h1 h2 => HA.out j h1 (by omega)⟩, HB.out⟩
    · have hx2 : x ≤ 73048 := (dayB_iff.1 hdx).2
      cases hwx : workB l x
      · go_wp2_with (first
          | (go_at_call 38; refine (isDay_any _ _).mono ?_; rintro e w' ⟨rfl, rfl⟩)
          | (go_at_call 76; refine (isWorkday_any _ _ _ l _ hdx HS.out).mono ?_; rintro e w' ⟨rfl, rfl⟩))
        go_roundw
        case rel =>
          refine ⟨x + 1, by go_num, by omega, by omega, ?_, HS.out.alloc _, HB.out.alloc HB.out.size _⟩
          intro j h1 h2
          by_cases e : j = x
          · subst e; exact hwx
          · exact HA.out j h1 (by omega)
        case measure => simp [intOf]; omega
      · go_wp2_with (first
          | (go_at_call 38; refine (isDay_any _ _).mono ?_; rintro e w' ⟨rfl, rfl⟩)
          | (go_at_call 76; refine (isWorkday_any _ _ _ l _ hdx HS.out).mono ?_; rintro e w' ⟨rfl, rfl⟩))
        go_ret2
        exact ⟨_, _, rfl, .inl ⟨rfl, hx0, hx2, hwx, HA.out⟩, HB.out.alloc HB.out.size _⟩

/-- What Next answers. -/
def NextE (l : List Int) (d r e : Int) : Prop := (checkE l [d] ≠ 0 ∧ r = 0 ∧ e = checkE l [d]) ∨ (checkE l [d] = 0 ∧ NextIs l d r e)
theorem NextE.unique {l : List Int} {d r e r' e' : Int} (h : NextE l d r e) (h' : NextE l d r' e') : r = r' ∧ e = e' := by
  rcases h with ⟨a1, a2, a3⟩ | ⟨a1, a2⟩ <;> rcases h' with ⟨b1, b2, b3⟩ | ⟨b1, b2⟩
  · exact ⟨by omega, by omega⟩
  · exact absurd b1 a1
  · exact absurd a1 b1
  · exact a2.unique b2
theorem checkE_bd (l q : List Int) : 0 ≤ checkE l q ∧ checkE l q ≤ 4 := by
  unfold checkE
  split
  · omega
  · split
    · omega
    · split <;> omega
theorem came_one (w : World) (d : Int) : Came (w.alloc (.cells #[.int .i64 d] 3)) (some ⟨w.heap.size, 0, none⟩) [d] := by
  refine .inr ⟨_, _, rfl, by simp, fun j hj => ?_⟩
  have : j = 0 := by simp at hj; omega
  subst this
  simp [nth]
theorem Came.dN {w : World} {a : Option Addr} {l : List Int} (h : Came w a l) (k : Nat) : Came (w.drewN k) a l := h

end Go.Proofs.Ytlaamfagjpdhgaa
