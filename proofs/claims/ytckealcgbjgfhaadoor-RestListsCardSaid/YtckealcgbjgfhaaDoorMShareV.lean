/-
  Walk of money.Share: at every total and every list of weights it returns the error, or a new row that holds the shares.
-/
import Derived.Test.YtckealcgbjgfhaaDoorMShareW
namespace Go.Proofs.YtckealcgbjgfhaaDoor.Mny
open Go.RowKit

/-- What is wrong with a total and weights. -/
def shareE (T : Int) (l : List Int) : Int :=
  if l.length < 1 ∨ 20 < l.length then 2 else if T < 0 ∨ 1000000000000 < T then 3 else if l.all ratB = false then 3 else if sumTo l l.length = 0 then 5 else 0
/-- The shares. -/
def shareL (T : Int) (l : List Int) : List Int :=
  (give (leftTo T (sumTo l l.length) l l.length).toNat (pTo T (sumTo l l.length) l l.length) (rTo T (sumTo l l.length) l l.length)).1
theorem shareL_length (T : Int) (l : List Int) : (shareL T l).length = l.length := by
  unfold shareL; rw [(give_length _ _ _).1]; exact fillTo_length _ _ _

/-- A slice of ints that came in: its address, its numbers. -/
def Came (w : World) (a : Option Addr) (l : List Int) : Prop := l.length = 0 ∨ ∃ b off, a = some ⟨b, off, none⟩ ∧ At w b off l
theorem Came.below {w w' : World} {a : Option Addr} {l : List Int} (h : Came w a l) (hb : Below w.heap.size w w') : Came w' a l := by
  rcases h with h | ⟨b, off, rfl, h⟩
  · exact .inl h
  · exact .inr ⟨b, off, rfl, h.below hb h.1⟩

theorem lt_of_cell {W : World} {p : Addr} {v : Value} (h : W.cell? p = some v) : p.block < W.heap.size := by
  by_cases hb : p.block < W.heap.size
  · exact hb
  · have : W.heap[p.block]? = none := Array.getElem?_eq_none (by omega)
    simp [World.cell?, this] at h
theorem came_of (W : World) (x : Addr) (zs : List Int) (len cap : Nat) (hl : len ≤ cap) (hz : zs.length = cap) (hm : cap ≤ maxLen)
    (hcell : ∀ i, i < zs.length → W.cell? (x.add i) = some (.int .i64 (zs.getD i 0))) (hwz : ∀ n ∈ zs, (Lit.int .i64 n).wf = true) :
    ∃ l : List Int, Came W (some x) l ∧ l.length = len ∧ len ≤ maxLen ∧ ∀ n ∈ l, (Lit.int .i64 n).wf = true := by
  refine ⟨zs.take len, ?_, by simp; omega, by omega, fun n hn => hwz n (List.mem_of_mem_take hn)⟩
  by_cases h0 : len = 0
  · exact .inl (by simp [h0])
  · obtain ⟨b, off, spot⟩ := x
    have hc := hcell 0 (by omega)
    have hspot : spot = none := by simpa [Addr.add] using World.cell?_spot hc
    subst hspot
    refine .inr ⟨b, off, rfl, lt_of_cell hc, fun j hj => ?_⟩
    have hj' : j < len := by simp at hj; omega
    have := hcell j (by omega)
    rw [Addr.add_lit] at this
    rw [this]
    simp [nth, List.getD_eq_getElem?_getD, hj']

theorem nth_mem_or {P : Int → Prop} (h0 : P 0) {l : List Int} (h : ∀ x ∈ l, P x) (j : Nat) : P (nth l j) := by
  unfold nth
  rw [List.getD_eq_getElem?_getD]
  cases hj : l[j]? with
  | none => simpa using h0
  | some x => simpa using h x (List.mem_of_getElem? hj)
theorem ratB_iff {x : Int} : ratB x = true ↔ 0 ≤ x ∧ x ≤ 1000000 := by unfold ratB; exact decide_eq_true_iff
theorem all_rate {l : List Int} (h : l.all ratB = true) (j : Nat) : 0 ≤ nth l j ∧ nth l j ≤ 1000000 :=
  nth_mem_or (P := fun x => 0 ≤ x ∧ x ≤ 1000000) (by omega) (fun x hx => ratB_iff.1 (List.all_eq_true.1 h x hx)) j
theorem all_of_nth {l : List Int} (h : ∀ j, j < l.length → ratB (nth l j) = true) : l.all ratB = true := by
  rw [List.all_eq_true]
  intro x hx
  obtain ⟨j, hj, rfl⟩ := List.mem_iff_getElem.1 hx
  have := h j hj
  simpa [nth, List.getD_eq_getElem?_getD, hj] using this
theorem not_all {l : List Int} {j : Nat} (_hj : j < l.length) (h : ratB (nth l j) = false) : l.all ratB = false := by
  rw [Bool.eq_false_iff]
  intro e
  have := all_rate e j
  rw [← ratB_iff, h] at this
  cases this
theorem sumTo_bd {l : List Int} (h : ∀ j, 0 ≤ nth l j ∧ nth l j ≤ 1000000) (k : Nat) : 0 ≤ sumTo l k ∧ sumTo l k ≤ 1000000 * k := by
  induction k with
  | zero => simp [sumTo]
  | succ k ih => have := h k; simp only [sumTo]; omega
theorem le_sumTo {l : List Int} (h : ∀ j, 0 ≤ nth l j) (j k : Nat) (hj : j < k) : nth l j ≤ sumTo l k := by
  induction k with
  | zero => omega
  | succ k ih =>
    have hs : 0 ≤ sumTo l k := by
      clear ih hj
      induction k with
      | zero => simp [sumTo]
      | succ k ih => have := h k; simp only [sumTo]; omega
    have := h k
    simp only [sumTo]
    by_cases e : j = k
    · subst e; omega
    · have := ih (by omega); omega

theorem ret_nil {a b : Int} (h : a = b) : Ending.returned (.tuple #[.slice none 0 0, .int .i64 a]) = .returned (.tuple #[.slice none 0 0, .int .i64 b]) := by rw [h]

theorem share_bad1 (T : Int) (a : Option Addr) (l : List Int) (c : Nat) (w : World) (hl : l.length ≤ 9223372036854775807) (h : l.length < 1 ∨ 20 < l.length ∨ T < 0 ∨ 1000000000000 < T) :
    Calls Tryd.prog 7 #[.int .i64 T, .slice a l.length c] w fun e w' => e = .returned (.tuple #[.slice none 0 0, .int .i64 (shareE T l)]) ∧ w' = w
    := by
  by_cases h1 : l.length < 1
  · have HE : Hid (shareE T l = 2) := by unfold Hid shareE; rw [if_pos (Or.inl h1)]
    generalize l.length = n at *
    have h1' : (n : Int) < 1 := by omega
    go_enter Tryd.func7, Tryd.ntmps7
    go_wp2
    go_ret2
    exact ⟨ret_nil HE.out.symm, rfl⟩
  · by_cases h2 : 20 < l.length
    · have HE : Hid (shareE T l = 2) := by unfold Hid shareE; rw [if_pos (Or.inr h2)]
      generalize l.length = n at *
      have h2' : (20 : Int) < (n : Int) := by omega
      go_enter Tryd.func7, Tryd.ntmps7
      go_wp2
      go_ret2
      exact ⟨ret_nil HE.out.symm, rfl⟩
    · by_cases h3 : T < 0
      · have HE : Hid (shareE T l = 3) := by unfold Hid shareE; rw [if_neg (by omega), if_pos (Or.inl h3)]
        generalize l.length = n at *
        go_enter Tryd.func7, Tryd.ntmps7
        go_wp2
        go_ret2
        exact ⟨ret_nil HE.out.symm, rfl⟩
      · have HE : Hid (shareE T l = 3) := by unfold Hid shareE; rw [if_neg (by omega), if_pos (by omega)]
        have h4 : 1000000000000 < T := by omega
        generalize l.length = n at *
        go_enter Tryd.func7, Tryd.ntmps7
        go_wp2
        go_ret2
        exact ⟨ret_nil HE.out.symm, rfl⟩

set_option maxHeartbeats 1000000 in
/-- Where the length and the total are right. -/
theorem share_in (T : Int) (b off : Nat) (l : List Int) (c : Nat) (w : World) (h1 : 1 ≤ l.length) (h2 : l.length ≤ 20) (h3 : 0 ≤ T) (h4 : T ≤ 1000000000000) (hat : At w b off l) :
    Calls Tryd.prog 7 #[.int .i64 T, .slice (some ⟨b, off, none⟩) l.length c] w fun e w' =>
      (shareE T l ≠ 0 ∧ e = .returned (.tuple #[.slice none 0 0, .int .i64 (shareE T l)]) ∧ w' = w) ∨
      (shareE T l = 0 ∧ e = .returned (.tuple #[.slice (some ⟨w.heap.size, 0, none⟩) l.length l.length, .int .i64 0]) ∧ Own w' w.heap.size (shareL T l) ∧ Below w.heap.size w w') := by
  have HE3 : Hid (l.all ratB = false → shareE T l = 3) := fun h => by unfold shareE; rw [if_neg (by omega), if_neg (by omega), if_pos h]
  have HE5 : Hid (l.all ratB = true → sumTo l l.length = 0 → shareE T l = 5) := fun h k => by unfold shareE; rw [if_neg (by omega), if_neg (by omega), if_neg (by simp [h]), if_pos k]
  have HE0 : Hid (l.all ratB = true → sumTo l l.length ≠ 0 → shareE T l = 0) := fun h k => by unfold shareE; rw [if_neg (by omega), if_neg (by omega), if_neg (by simp [h]), if_neg k]
  have HSH : Hid (∀ (S : Int), l.all ratB = true → S = sumTo l l.length → S ≠ 0 → Calls Tryd.prog 16 #[.int .i64 T, .int .i64 S, .slice (some ⟨b, off, none⟩) l.length c] w fun e w' =>
      e = .returned (.slice (some ⟨w.heap.size, 0, none⟩) l.length l.length) ∧ Own w' w.heap.size (shareL T l) ∧ Below w.heap.size w w') := by
    intro S hall hS hne
    have hr := all_rate hall
    have hb := sumTo_bd hr l.length
    subst hS
    exact shares_any T _ l b off c w ⟨h3, h4, by omega, by omega, h1, h2, fun j => (hr j).1, fun j => (hr j).2, fun j => by
      by_cases hj : j < l.length
      · exact le_sumTo (fun j => (hr j).1) j _ hj
      · have : nth l j = 0 := by unfold nth; rw [List.getD_eq_getElem?_getD, List.getElem?_eq_none (by omega)]; rfl
        omega⟩ hat
  have HC : Hid (∀ j, j < l.length → w.cell? ⟨b, off + j, none⟩ = some (.int .i64 (nth l j))) := hat.2
  have HN : Hid ((∀ j, j < l.length → ratB (nth l j) = true) → l.all ratB = true) := all_of_nth
  have HM : Hid (∀ j, j < l.length → ratB (nth l j) = false → l.all ratB = false) := fun j hj h => not_all hj h
  clear hat
  generalize hn : l.length = n at *
  clear hn
  go_enter Tryd.func7, Tryd.ntmps7
  go_wp2
  go_loop [6, 25] (fun s i => ∃ k : Nat, k ≤ n ∧ i = .int .i64 k ∧ s = .int .i64 (sumTo l k) ∧ (0 ≤ sumTo l k ∧ sumTo l k ≤ 1000000 * k) ∧ ∀ j, j < k → ratB (nth l j) = true) (fun _ i => n - (intOf i).toNat)
  case atStart => exact ⟨0, Nat.zero_le _, rfl, rfl, by simp [sumTo], fun j hj => by omega⟩
  case round =>
    obtain ⟨k, hk, rfl, rfl, ⟨hs0, hs1⟩, hall⟩ := hrel
    have HA : Hid (∀ j, j < k → ratB (nth l j) = true) := hall
    clear hall
    by_cases hlt : k < n
    · have hlt' : (k : Int) < (n : Int) := by omega
      have x1 := HC.out k hlt
      cases hr : ratB (nth l k)
      · go_wp2_with (go_at_call 15; refine (isRate_any _ _).mono ?_; rintro e w' ⟨rfl, rfl⟩)
        go_ret2
        have e3 := HE3.out (HM.out k hlt hr)
        exact Or.inl ⟨by rw [e3]; decide, ret_nil e3.symm, rfl⟩
      · have hx := ratB_iff.1 hr
        obtain ⟨hx0, hx1⟩ := hx
        have HS : Hid (sumTo l (k + 1) = sumTo l k + nth l k) := rfl
        go_wp2_with (go_at_call 15; refine (isRate_any _ _).mono ?_; rintro e w' ⟨rfl, rfl⟩)
        go_round
        case rel =>
          refine ⟨k + 1, by omega, by go_num, rfl, ?_, ?_⟩
          · rw [HS.out]; omega
          · intro j hj
            by_cases e : j = k
            · subst e; exact hr
            · exact HA.out j (by omega)
        case measure => simp [intOf]; omega
    · have hkn : k = n := by omega
      subst hkn
      have hall := HN.out HA.out
      by_cases h0 : sumTo l k = 0
      · have e5 := HE5.out hall h0
        have HE : Hid (shareE T l = 5) := e5
        have hb : (sumTo l k == 0) = true := by simp [h0]
        clear e5 h0 hall
        go_wp2
        go_ret2
        exact Or.inl ⟨by rw [HE.out]; decide, ret_nil HE.out.symm, rfl⟩
      · have HE : Hid (shareE T l = 0) := HE0.out hall h0
        have hb : (sumTo l k == 0) = false := by simp [h0]
        have HH : Hid (Calls Tryd.prog 16 #[.int .i64 T, .int .i64 (sumTo l k), .slice (some ⟨b, off, none⟩) k c] w fun e w' =>
            e = .returned (.slice (some ⟨w.heap.size, 0, none⟩) k k) ∧ Own w' w.heap.size (shareL T l) ∧ Below w.heap.size w w') := HSH.out _ hall rfl h0
        clear h0 hall
        go_wp2_with (go_at_call 16; refine (HH.out).mono ?_; rintro e w' ⟨rfl, ho, hbl⟩)
        go_ret2
        exact Or.inr ⟨HE.out, rfl, ho, hbl⟩
end Go.Proofs.YtckealcgbjgfhaaDoor.Mny
