/-
  Promise D1: when a history is right; walks of isRow, Check and of the reference's CheckHistory.
-/
import Derived.Test.YtjokgohnpnhhdaaHRow
namespace Go.Proofs.Ytjokgohnpnhhdaa
open Go.RowKit

theorem below_dN {B : Nat} {a w : World} (h : Below B a w) (k : Nat) : Below B a (w.drewN k) := h.trans ⟨rfl, rfl, rfl, Nat.le_refl _, fun _ _ => rfl⟩
def dayB (n : Int) : Bool := decide (0 ≤ n ∧ n ≤ 73048)
def monB (n : Int) : Bool := decide (-1000000000000 ≤ n ∧ n ≤ 1000000000000)
theorem dayB_iff {x : Int} : dayB x = true ↔ 0 ≤ x ∧ x ≤ 73048 := by unfold dayB; exact decide_eq_true_iff
theorem isDay_any (n : Int) (w : World) : Calls Try.prog 24 #[.int .i64 n] w fun e w' => e = .returned (.bool (dayB n)) ∧ w' = w := by
  by_cases h1 : 0 ≤ n
  · by_cases h2 : n ≤ 73048
    · have H : Hid (dayB n = true) := decide_eq_true ⟨h1, h2⟩
      go_enter Try.func24, Try.ntmps24
      go_wp2
      go_ret
      exact ⟨cret_bool (by rw [H.out]; try (simp <;> omega)), rfl⟩
    · have H : Hid (dayB n = false) := decide_eq_false (by omega)
      go_enter Try.func24, Try.ntmps24
      go_wp2
      go_ret
      exact ⟨cret_bool (by rw [H.out]; try (simp <;> omega)), rfl⟩
  · have H : Hid (dayB n = false) := decide_eq_false (by omega)
    have hd : decide (0 ≤ n) = false := decide_eq_false h1
    go_enter Try.func24, Try.ntmps24
    go_wp2
    go_ret
    exact ⟨cret_bool (by rw [H.out]), rfl⟩
theorem isDay_ref (n : Int) (w : World) : Calls Try.prog 17 #[.int .i64 n] w fun e w' => e = .returned (.bool (dayB n)) ∧ w' = w := by
  by_cases h1 : 0 ≤ n
  · by_cases h2 : n ≤ 73048
    · have H : Hid (dayB n = true) := decide_eq_true ⟨h1, h2⟩
      go_enter Try.func17, Try.ntmps17
      go_wp2
      go_ret
      exact ⟨cret_bool (by rw [H.out]; try (simp <;> omega)), rfl⟩
    · have H : Hid (dayB n = false) := decide_eq_false (by omega)
      go_enter Try.func17, Try.ntmps17
      go_wp2
      go_ret
      exact ⟨cret_bool (by rw [H.out]; try (simp <;> omega)), rfl⟩
  · have H : Hid (dayB n = false) := decide_eq_false (by omega)
    have hd : decide (0 ≤ n) = false := decide_eq_false h1
    go_enter Try.func17, Try.ntmps17
    go_wp2
    go_ret
    exact ⟨cret_bool (by rw [H.out]), rfl⟩
theorem isMoney_any (n : Int) (w : World) : Calls Try.prog 26 #[.int .i64 n] w fun e w' => e = .returned (.bool (monB n)) ∧ w' = w := by
  by_cases h1 : -1000000000000 ≤ n
  · by_cases h2 : n ≤ 1000000000000
    · have H : Hid (monB n = true) := decide_eq_true ⟨h1, h2⟩
      go_enter Try.func26, Try.ntmps26
      go_wp2
      go_ret
      exact ⟨cret_bool (by rw [H.out]; try (simp <;> omega)), rfl⟩
    · have H : Hid (monB n = false) := decide_eq_false (by omega)
      go_enter Try.func26, Try.ntmps26
      go_wp2
      go_ret
      exact ⟨cret_bool (by rw [H.out]; try (simp <;> omega)), rfl⟩
  · have H : Hid (monB n = false) := decide_eq_false (by omega)
    have hd : decide (-1000000000000 ≤ n) = false := decide_eq_false h1
    go_enter Try.func26, Try.ntmps26
    go_wp2
    go_ret
    exact ⟨cret_bool (by rw [H.out]), rfl⟩
theorem isMoney_ref (n : Int) (w : World) : Calls Try.prog 18 #[.int .i64 n] w fun e w' => e = .returned (.bool (monB n)) ∧ w' = w := by
  by_cases h1 : -1000000000000 ≤ n
  · by_cases h2 : n ≤ 1000000000000
    · have H : Hid (monB n = true) := decide_eq_true ⟨h1, h2⟩
      go_enter Try.func18, Try.ntmps18
      go_wp2
      go_ret
      exact ⟨cret_bool (by rw [H.out]; try (simp <;> omega)), rfl⟩
    · have H : Hid (monB n = false) := decide_eq_false (by omega)
      go_enter Try.func18, Try.ntmps18
      go_wp2
      go_ret
      exact ⟨cret_bool (by rw [H.out]; try (simp <;> omega)), rfl⟩
  · have H : Hid (monB n = false) := decide_eq_false (by omega)
    have hd : decide (-1000000000000 ≤ n) = false := decide_eq_false h1
    go_enter Try.func18, Try.ntmps18
    go_wp2
    go_ret
    exact ⟨cret_bool (by rw [H.out]), rfl⟩

/-- Is a row right? -/
def rowB (r : Rw) : Bool := dayB r.frm && dayB r.seen && monB r.val && !(r.gone && decide (r.val ≠ 0))
set_option maxHeartbeats 1000000 in
theorem isRow_any (f s v : Int) (g : Bool) (w : World) :
    Calls Try.prog 23 #[.agg #[.int .i64 f, .int .i64 s, .int .i64 v, .bool g]] w fun e w' => e = .returned (.bool (rowB ⟨f, s, v, g⟩)) ∧ w' = w.alloc (.cells #[.int .i64 f, .int .i64 s, .int .i64 v, .bool g] 24) := by
  cases hf : dayB f
  · have HR : Hid (rowB ⟨f, s, v, g⟩ = false) := by unfold Hid rowB; simp [hf]
    go_enter Try.func23, Try.ntmps23
    go_wp2_with (first
      | (go_at_call 24; refine (isDay_any _ _).mono ?_; rintro e w' ⟨rfl, h'⟩; subst w')
      | (go_at_call 26; refine (isMoney_any _ _).mono ?_; rintro e w' ⟨rfl, h'⟩; subst w'))
    go_ret
    exact ⟨cret_bool (by rw [HR.out]; try simp [and_true]), rfl⟩
  · cases hs : dayB s
    · have HR : Hid (rowB ⟨f, s, v, g⟩ = false) := by unfold Hid rowB; simp [hs]
      go_enter Try.func23, Try.ntmps23
      go_wp2_with (first
        | (go_at_call 24; refine (isDay_any _ _).mono ?_; rintro e w' ⟨rfl, h'⟩; subst w')
        | (go_at_call 26; refine (isMoney_any _ _).mono ?_; rintro e w' ⟨rfl, h'⟩; subst w'))
      go_ret
      exact ⟨cret_bool (by rw [HR.out]; try simp [and_true]), rfl⟩
    · cases hv : monB v
      · have HR : Hid (rowB ⟨f, s, v, g⟩ = false) := by unfold Hid rowB; simp [hv]
        go_enter Try.func23, Try.ntmps23
        go_wp2_with (first
          | (go_at_call 24; refine (isDay_any _ _).mono ?_; rintro e w' ⟨rfl, h'⟩; subst w')
          | (go_at_call 26; refine (isMoney_any _ _).mono ?_; rintro e w' ⟨rfl, h'⟩; subst w'))
        go_ret
        exact ⟨cret_bool (by rw [HR.out]; try simp [and_true]), rfl⟩
      · cases g
        · have HR : Hid (rowB ⟨f, s, v, false⟩ = true) := by unfold Hid rowB; simp [hf, hs, hv]
          go_enter Try.func23, Try.ntmps23
          go_wp2_with (first
            | (go_at_call 24; refine (isDay_any _ _).mono ?_; rintro e w' ⟨rfl, h'⟩; subst w')
            | (go_at_call 26; refine (isMoney_any _ _).mono ?_; rintro e w' ⟨rfl, h'⟩; subst w'))
          go_ret
          exact ⟨cret_bool (by rw [HR.out]; try simp [and_true]), rfl⟩
        · by_cases h0 : v = 0
          · subst h0
            have HR : Hid (rowB ⟨f, s, 0, true⟩ = true) := by unfold Hid rowB; rw [hf, hs, hv]; simp
            go_enter Try.func23, Try.ntmps23
            go_wp2_with (first
              | (go_at_call 24; refine (isDay_any _ _).mono ?_; rintro e w' ⟨rfl, h'⟩; subst w')
              | (go_at_call 26; refine (isMoney_any _ _).mono ?_; rintro e w' ⟨rfl, h'⟩; subst w'))
            go_ret
            exact ⟨cret_bool (by rw [HR.out]; try simp [and_true]), rfl⟩
          · have HR : Hid (rowB ⟨f, s, v, true⟩ = false) := by unfold Hid rowB; simp [h0]
            have h0B : decide (v = 0) = false := decide_eq_false h0
            go_enter Try.func23, Try.ntmps23
            go_wp2_with (first
              | (go_at_call 24; refine (isDay_any _ _).mono ?_; rintro e w' ⟨rfl, h'⟩; subst w')
              | (go_at_call 26; refine (isMoney_any _ _).mono ?_; rintro e w' ⟨rfl, h'⟩; subst w'))
            go_ret
            exact ⟨cret_bool (by rw [HR.out]; try simp [h0]), rfl⟩

/-- Was each row seen no earlier than the one ahead of it? -/
def seenB (l : List Rw) : Bool := (List.range (l.length - 1)).all fun j => decide ((rnth l j).seen ≤ (rnth l (j + 1)).seen)
theorem seenB_iff {l : List Rw} : seenB l = true ↔ ∀ j, j + 1 < l.length → (rnth l j).seen ≤ (rnth l (j + 1)).seen := by
  unfold seenB
  rw [List.all_eq_true]
  constructor
  · intro h j hj
    exact of_decide_eq_true (h j (List.mem_range.2 (by omega)))
  · intro h j hj
    exact decide_eq_true (h j (by have := List.mem_range.1 hj; omega))
theorem seenB_not {l : List Rw} {j : Nat} (hj : j + 1 < l.length) (h : (rnth l (j + 1)).seen < (rnth l j).seen) : seenB l = false := by
  rw [Bool.eq_false_iff]
  intro e
  have := seenB_iff.1 e j hj
  omega
/-- Are all rows right? -/
def rowsB (l : List Rw) : Bool := l.all rowB
theorem rowsB_nth {l : List Rw} (h : rowsB l = true) {j : Nat} (hj : j < l.length) : rowB (rnth l j) = true := by
  have : rnth l j ∈ l := by
    unfold rnth
    rw [List.getD_eq_getElem?_getD, List.getElem?_eq_getElem hj]
    exact List.getElem_mem hj
  exact List.all_eq_true.1 h _ this
theorem rowsB_of {l : List Rw} (h : ∀ j, j < l.length → rowB (rnth l j) = true) : rowsB l = true := by
  unfold rowsB
  rw [List.all_eq_true]
  intro x hx
  obtain ⟨j, hj, rfl⟩ := List.mem_iff_getElem.1 hx
  have := h j hj
  simpa [rnth, List.getD_eq_getElem?_getD, hj] using this
theorem rowsB_not {l : List Rw} {j : Nat} (hj : j < l.length) (h : rowB (rnth l j) = false) : rowsB l = false := by
  rw [Bool.eq_false_iff]
  intro e
  rw [rowsB_nth e hj] at h
  cases h
/-- What is wrong with a history. -/
def histE (l : List Rw) : Int := if 50 < l.length then 2 else if rowsB l = false then 3 else if seenB l = false then 4 else 0
theorem histE_bd (l : List Rw) : 0 ≤ histE l ∧ histE l ≤ 4 := by
  unfold histE
  (repeat' split) <;> omega
theorem histE_ok {l : List Rw} (h : histE l = 0) : l.length ≤ 50 ∧ rowsB l = true ∧ seenB l = true := by
  unfold histE at h
  split at h
  · cases h
  · split at h
    · cases h
    · split at h
      · cases h
      · rename_i h1 h2 h3
        exact ⟨by omega, by simpa using h2, by simpa using h3⟩
/-- A row's four cells. -/
def RowIs (w : World) (b o : Nat) (r : Rw) : Prop := w.cell? ⟨b, o, none⟩ = some (.int .i64 r.frm) ∧ w.cell? ⟨b, o + 1, none⟩ = some (.int .i64 r.seen) ∧ w.cell? ⟨b, o + 2, none⟩ = some (.int .i64 r.val) ∧ w.cell? ⟨b, o + 3, none⟩ = some (.bool r.gone)
theorem RowIs.below {B : Nat} {w w' : World} {b o : Nat} {r : Rw} (h : RowIs w b o r) (hb : Below B w w') (hB : b < B) : RowIs w' b o r :=
  ⟨(hb.cell (p := ⟨b, o, none⟩) hB).trans h.1, (hb.cell (p := ⟨b, o + 1, none⟩) hB).trans h.2.1, (hb.cell (p := ⟨b, o + 2, none⟩) hB).trans h.2.2.1, (hb.cell (p := ⟨b, o + 3, none⟩) hB).trans h.2.2.2⟩
theorem CameR.open {w : World} {a : Option Addr} {l : List Rw} (h : CameR w a l) {n : Nat} (hn : l.length = n) (h0 : 0 < n) : ∃ b off, a = some ⟨b, off, none⟩ ∧ ∀ w', Below w.heap.size w w' → ∀ k, k < n → RowIs w' b (off + k * 4) (rnth l k) := by
  rcases h with h | ⟨b, off, rfl, h⟩
  · omega
  · exact ⟨b, off, rfl, fun w' hb k hk => RowIs.below (h.2 k (by omega)) hb h.1⟩

set_option maxRecDepth 100000 in
set_option maxHeartbeats 2000000 in
theorem Check_any (a : Option Addr) (n cap : Nat) (l : List Rw) (w : World) (hc : CameR w a l) (hn : l.length = n) (hm : n ≤ maxLen) :
    Calls Try.prog 16 #[.slice a n cap] w fun e w' => e = .returned (.int .i64 (histE l)) ∧ Below w.heap.size w w' := by
  have hm' : n ≤ 9223372036854775807 := by unfold maxLen at hm; omega
  have HO := Lib.hid (fun h0 => hc.open hn h0)
  clear hm hc
  by_cases h50 : 50 < n
  · have HE : Hid (histE l = 2) := by unfold Hid histE; rw [if_pos (by omega)]
    have h50' : (50 : Int) < (n : Int) := by omega
    go_enter Try.func16, Try.ntmps16
    go_wp2_with fail
    go_ret
    exact ⟨cret_int HE.out.symm, Below.refl _ _⟩
  · have h50' : ¬ ((50 : Int) < (n : Int)) := by omega
    go_enter Try.func16, Try.ntmps16
    go_wp2_with fail
    go_loopw [11] (fun i wr => ∃ k : Nat, k ≤ n ∧ i = .int .i64 k ∧ (∀ j, j < k → rowB (rnth l j) = true) ∧ Below w.heap.size w wr) (fun i _ => n - (intOf i).toNat)
    case atStart => exact ⟨0, Nat.zero_le _, rfl, fun j hj => by omega, Below.refl _ _⟩
    case round =>
      obtain ⟨k, hk, rfl, hall, hb⟩ := hrel
      have HA := Lib.hid hall
      have HB := Lib.hid hb
      clear hall hb
      by_cases hlt : k < n
      · have hlt' : (k : Int) < (n : Int) := by omega
        obtain ⟨b, off, rfl, hcell⟩ := HO.out (by omega)
        obtain ⟨x0, x1, x2, x3⟩ := hcell wr HB.out k hlt
        clear hcell
        cases hr : rowB (rnth l k)
        · have HE : Hid (histE l = 3) := by unfold Hid histE; rw [if_neg (by omega), if_pos (rowsB_not (l := l) (j := k) (by omega) hr)]
          go_wp2_with (go_at_call 23; refine (isRow_any _ _ _ _ _).mono ?_; rintro e w' ⟨rfl, h'⟩; subst w')
          go_ret
          exact ⟨cret_int HE.out.symm, (HB.out.alloc HB.out.size _).alloc (by have := HB.out.size; simp; omega) _⟩
        · go_wp2_with (go_at_call 23; refine (isRow_any _ _ _ _ _).mono ?_; rintro e w' ⟨rfl, h'⟩; subst w')
          go_roundw
          case rel =>
            refine ⟨k + 1, by omega, by go_num, ?_, (HB.out.alloc HB.out.size _).alloc (by have := HB.out.size; simp; omega) _⟩
            intro j hj
            by_cases e : j = k
            · subst e; exact hr
            · exact HA.out j (by omega)
          case measure => simp [intOf]; omega
      · have hkn : k = n := by omega
        subst hkn
        have HL := Lib.hid (rowsB_of (l := l) (fun j hj => HA.out j (by omega)))
        have HE0 : Hid (histE l = if seenB l = false then 4 else 0) := by
          unfold Hid histE
          rw [if_neg (by omega), if_neg (by rw [HL.out]; simp)]
        clear HA HL
        go_wp2_with fail
        go_loopw [5] (fun i wr => ∃ r : Nat, (r + 1 ≤ k ∨ r = 0) ∧ i = .int .i64 ((r : Int) + 1) ∧ Below w.heap.size w wr ∧ ∀ j, j < r → (rnth l j).seen ≤ (rnth l (j + 1)).seen) (fun i _ => k - (intOf i).toNat)
        case atStart => exact ⟨0, .inr rfl, rfl, HB.out, fun j hj => by omega⟩
        case round =>
          clear HB
          obtain ⟨r, hrk, rfl, hb, hall⟩ := hrel
          have HA := Lib.hid hall
          have HB := Lib.hid hb
          clear hall hb
          by_cases hlt : r + 1 < k
          · have hlt' : (r : Int) + 1 < (k : Int) := by omega
            have hlt0 : (r : Int) < (k : Int) := by omega
            obtain ⟨b, off, rfl, hcell⟩ := HO.out (by omega)
            obtain ⟨_, x1, _, _⟩ := hcell _ HB.out r (by omega)
            obtain ⟨_, y1, _, _⟩ := hcell _ HB.out (r + 1) (by omega)
            clear hcell
            have hsub : (r : Int) + 1 - 1 = (r : Int) := by omega
            have htn : ((r : Int) + 1).toNat = r + 1 := by omega
            by_cases hr : (rnth l (r + 1)).seen < (rnth l r).seen
            · have HF := Lib.hid (seenB_not (l := l) (j := r) (by omega) hr)
              have HE : Hid (histE l = 4) := by unfold Hid; rw [HE0.out, if_pos HF.out]
              go_wp2_with fail
              go_quiet (fail)
              go_wp2_with fail
              go_ret
              exact ⟨cret_int HE.out.symm, below_dN HB.out _⟩
            · have hrB : decide ((rnth l (r + 1)).seen < (rnth l r).seen) = false := decide_eq_false hr
              go_wp2_with fail
              go_quiet (fail)
              go_wp2_with fail
              go_roundw
              case rel =>
                refine ⟨r + 1, .inl (by omega), by go_num, below_dN HB.out _, ?_⟩
                intro j hj
                by_cases e : j = r
                · subst e; omega
                · exact HA.out j (by omega)
              case measure => simp [intOf]; omega
          · have hnl : ¬ ((r : Int) + 1 < (k : Int)) := by omega
            have HF := Lib.hid (seenB_iff (l := l).2 (fun j hj => HA.out j (by omega)))
            have HE : Hid (histE l = 0) := by unfold Hid; rw [HE0.out, HF.out]; rfl
            go_wp2_with fail
            go_ret
            exact ⟨cret_int HE.out.symm, HB.out⟩
set_option maxRecDepth 100000 in
set_option maxHeartbeats 4000000 in
theorem check_ref (a : Option Addr) (n cap : Nat) (l : List Rw) (w : World) (hc : CameR w a l) (hn : l.length = n) (hm : n ≤ maxLen) :
    Calls Try.prog 8 #[.slice a n cap] w fun e w' => e = .returned (.int .i64 (histE l)) ∧ Below w.heap.size w w' := by
  have hm' : n ≤ 9223372036854775807 := by unfold maxLen at hm; omega
  have HO := Lib.hid (fun h0 => hc.open hn h0)
  clear hm hc
  by_cases h50 : 50 < n
  · have HE : Hid (histE l = 2) := by unfold Hid histE; rw [if_pos (by omega)]
    have h50' : (50 : Int) < (n : Int) := by omega
    go_enter Try.func8, Try.ntmps8
    go_wp2_with fail
    go_ret
    exact ⟨cret_int HE.out.symm, Below.refl _ _⟩
  · have h50' : ¬ ((50 : Int) < (n : Int)) := by omega
    go_enter Try.func8, Try.ntmps8
    go_wp2_with fail
    go_loop [3] (fun i => ∃ k : Nat, k ≤ n ∧ i = .int .i64 k ∧ (∀ j, j < k → rowB (rnth l j) = true)) (fun i => n - (intOf i).toNat)
    case atStart => exact ⟨0, Nat.zero_le _, rfl, fun j hj => by omega⟩
    case round =>
      obtain ⟨k, hk, rfl, hall⟩ := hrel
      have HA := Lib.hid hall
      clear hall
      by_cases hlt : k < n
      · have hlt' : (k : Int) < (n : Int) := by omega
        obtain ⟨b, off, rfl, hcell⟩ := HO.out (by omega)
        obtain ⟨x0, x1, x2, x3⟩ := hcell w (Below.refl _ _) k hlt
        clear hcell
        have HNO : Hid (rowB (rnth l k) = false → histE l = 3) := fun hr => by unfold histE; rw [if_neg (by omega), if_pos (rowsB_not (l := l) (j := k) (by omega) hr)]
        have HYES : Hid (rowB (rnth l k) = true → ∀ j, j < k + 1 → rowB (rnth l j) = true) := fun hr j hj => by
          by_cases e : j = k
          · subst e; exact hr
          · exact HA.out j (by omega)
        generalize rnth l k = r at *
        obtain ⟨f, s, v, g⟩ := r
        simp only at x0 x1 x2 x3
        cases hf : dayB f
        · have HE := Lib.hid (HNO.out (by unfold rowB; simp [hf]))
          go_wp2_with (first
            | (go_at_call 17; refine (isDay_ref _ _).mono ?_; rintro e w' ⟨rfl, h'⟩; subst w')
            | (go_at_call 18; refine (isMoney_ref _ _).mono ?_; rintro e w' ⟨rfl, h'⟩; subst w'))
          go_ret
          exact ⟨cret_int HE.out.symm, Below.refl _ _⟩
        · cases hs : dayB s
          · have HE := Lib.hid (HNO.out (by unfold rowB; simp [hs]))
            go_wp2_with (first
              | (go_at_call 17; refine (isDay_ref _ _).mono ?_; rintro e w' ⟨rfl, h'⟩; subst w')
              | (go_at_call 18; refine (isMoney_ref _ _).mono ?_; rintro e w' ⟨rfl, h'⟩; subst w'))
            go_ret
            exact ⟨cret_int HE.out.symm, Below.refl _ _⟩
          · cases hv : monB v
            · have HE := Lib.hid (HNO.out (by unfold rowB; simp [hv]))
              go_wp2_with (first
                | (go_at_call 17; refine (isDay_ref _ _).mono ?_; rintro e w' ⟨rfl, h'⟩; subst w')
                | (go_at_call 18; refine (isMoney_ref _ _).mono ?_; rintro e w' ⟨rfl, h'⟩; subst w'))
              go_ret
              exact ⟨cret_int HE.out.symm, Below.refl _ _⟩
            · cases g
              · have HY := Lib.hid (HYES.out (by unfold rowB; simp [hf, hs, hv]))
                go_wp2_with (first
                  | (go_at_call 17; refine (isDay_ref _ _).mono ?_; rintro e w' ⟨rfl, h'⟩; subst w')
                  | (go_at_call 18; refine (isMoney_ref _ _).mono ?_; rintro e w' ⟨rfl, h'⟩; subst w'))
                go_round
                case rel => exact ⟨k + 1, by omega, by go_num, HY.out⟩
                case measure => simp [intOf]; omega
              · by_cases h0 : v = 0
                · have HY := Lib.hid (HYES.out (by unfold rowB; rw [hf, hs, hv]; simp [h0]))
                  go_wp2_with (first
                    | (go_at_call 17; refine (isDay_ref _ _).mono ?_; rintro e w' ⟨rfl, h'⟩; subst w')
                    | (go_at_call 18; refine (isMoney_ref _ _).mono ?_; rintro e w' ⟨rfl, h'⟩; subst w'))
                  go_round
                  case rel => exact ⟨k + 1, by omega, by go_num, HY.out⟩
                  case measure => simp [intOf]; omega
                · have HE := Lib.hid (HNO.out (by unfold rowB; simp [h0]))
                  have h0B : decide (v = 0) = false := decide_eq_false h0
                  go_wp2_with (first
                    | (go_at_call 17; refine (isDay_ref _ _).mono ?_; rintro e w' ⟨rfl, h'⟩; subst w')
                    | (go_at_call 18; refine (isMoney_ref _ _).mono ?_; rintro e w' ⟨rfl, h'⟩; subst w'))
                  go_ret
                  exact ⟨cret_int HE.out.symm, Below.refl _ _⟩
      · have hkn : k = n := by omega
        subst hkn
        have HL := Lib.hid (rowsB_of (l := l) (fun j hj => HA.out j (by omega)))
        have HE0 : Hid (histE l = if seenB l = false then 4 else 0) := by
          unfold Hid histE
          rw [if_neg (by omega), if_neg (by rw [HL.out]; simp)]
        have HB := Lib.hid (Below.refl w.heap.size w)
        clear HA HL
        go_wp2_with fail
        go_loopw [4] (fun i wr => ∃ r : Nat, (r + 1 ≤ k ∨ r = 0) ∧ i = .int .i64 ((r : Int) + 1) ∧ Below w.heap.size w wr ∧ ∀ j, j < r → (rnth l j).seen ≤ (rnth l (j + 1)).seen) (fun i _ => k - (intOf i).toNat)
        case atStart => exact ⟨0, .inr rfl, rfl, HB.out, fun j hj => by omega⟩
        case round =>
          clear HB
          obtain ⟨r, hrk, rfl, hb, hall⟩ := hrel
          have HA := Lib.hid hall
          have HB := Lib.hid hb
          clear hall hb
          by_cases hlt : r + 1 < k
          · have hlt' : (r : Int) + 1 < (k : Int) := by omega
            have hlt0 : (r : Int) < (k : Int) := by omega
            obtain ⟨b, off, rfl, hcell⟩ := HO.out (by omega)
            obtain ⟨_, x1, _, _⟩ := hcell _ HB.out r (by omega)
            obtain ⟨_, y1, _, _⟩ := hcell _ HB.out (r + 1) (by omega)
            clear hcell
            have hsub : (r : Int) + 1 - 1 = (r : Int) := by omega
            have htn : ((r : Int) + 1).toNat = r + 1 := by omega
            by_cases hr : (rnth l (r + 1)).seen < (rnth l r).seen
            · have HF := Lib.hid (seenB_not (l := l) (j := r) (by omega) hr)
              have HE : Hid (histE l = 4) := by unfold Hid; rw [HE0.out, if_pos HF.out]
              go_wp2_with fail
              go_quiet (fail)
              go_wp2_with fail
              go_ret
              exact ⟨cret_int HE.out.symm, below_dN HB.out _⟩
            · have hrB : decide ((rnth l (r + 1)).seen < (rnth l r).seen) = false := decide_eq_false hr
              go_wp2_with fail
              go_quiet (fail)
              go_wp2_with fail
              go_roundw
              case rel =>
                refine ⟨r + 1, .inl (by omega), by go_num, below_dN HB.out _, ?_⟩
                intro j hj
                by_cases e : j = r
                · subst e; omega
                · exact HA.out j (by omega)
              case measure => simp [intOf]; omega
          · have hnl : ¬ ((r : Int) + 1 < (k : Int)) := by omega
            have HF := Lib.hid (seenB_iff (l := l).2 (fun j hj => HA.out j (by omega)))
            have HE : Hid (histE l = 0) := by unfold Hid; rw [HE0.out, HF.out]; rfl
            go_wp2_with fail
            go_ret
            exact ⟨cret_int HE.out.symm, HB.out⟩
end Go.Proofs.Ytjokgohnpnhhdaa
