/-
  Hours: when times are right, the minutes of pairs, by pairs and minute by minute; what of days is overtime. Pure functions, and lists of ints that came in.
-/
import Derived.Test.YtikkeidapgmcnaaMInts
import Derived.Lib.Hide
import Derived.Laws.Unary
import Derived.ChangeSame
namespace Go.Proofs.Ytikkeidapgmcnaa
open Go.RowKit

theorem uret_bool {a b : Bool} (h : a = b) : Ending.returned (.bool a) = .returned (.bool b) := by rw [h]
theorem uret_int {k : IntKind} {a b : Int} (h : a = b) : Ending.returned (.int k a) = .returned (.int k b) := by rw [h]
theorem uret2 {v : Value} {c d : Int} (k : c = d) : Ending.returned (.tuple #[v, .int .i64 c]) = .returned (.tuple #[v, .int .i64 d]) := by rw [k]
theorem ubelow_dN {B : Nat} {a w : World} (h : Below B a w) (k : Nat) : Below B a (w.drewN k) := h.trans ⟨rfl, rfl, rfl, Nat.le_refl _, fun _ _ => rfl⟩
/-- A slice of ints that came in: its address, its numbers. -/
def Came (w : World) (a : Option Addr) (l : List Int) : Prop := l.length = 0 ∨ ∃ b off, a = some ⟨b, off, none⟩ ∧ At w b off l
theorem Came.below {w w' : World} {a : Option Addr} {l : List Int} (h : Came w a l) (hb : Below w.heap.size w w') : Came w' a l := by
  rcases h with h | ⟨b, off, rfl, h⟩
  · exact .inl h
  · exact .inr ⟨b, off, rfl, h.below hb h.1⟩
theorem Came.open {w : World} {a : Option Addr} {l : List Int} (h : Came w a l) {n : Nat} (hn : l.length = n) (h0 : 0 < n) : ∃ b off, a = some ⟨b, off, none⟩ ∧ ∀ w', Below w.heap.size w w' → ∀ k, k < n → w'.cell? ⟨b, off + k, none⟩ = some (.int .i64 (nth l k)) := by
  rcases h with h | ⟨b, off, rfl, h⟩
  · omega
  · exact ⟨b, off, rfl, fun w' hb k hk => (h.below hb h.1).2 k (by omega)⟩
theorem lt_of_cell {W : World} {p : Addr} {v : Value} (h : W.cell? p = some v) : p.block < W.heap.size := by
  by_cases hb : p.block < W.heap.size
  · exact hb
  · have : W.heap[p.block]? = none := Array.getElem?_eq_none (by omega)
    simp [World.cell?, this] at h
theorem came_of (W : World) (x : Addr) (zs : List Int) (len cap : Nat) (hl : len ≤ cap) (hz : zs.length = cap) (hm : cap ≤ maxLen)
    (hcell : ∀ i, i < zs.length → W.cell? (x.add i) = some (.int .i64 (zs.getD i 0))) (hwz : ∀ n ∈ zs, (Lit.int .i64 n).wf = true) :
    ∃ l : List Int, Came W (some x) l ∧ l.length = len ∧ len ≤ maxLen ∧ ∀ n ∈ l, (Lit.int .i64 n).wf = true := by
  refine ⟨zs.take len, ?_, by simp; omega, by omega, fun n hn => hwz n (List.mem_of_mem_take hn)⟩
  by_cases h0 : len = 0
  · exact .inl (by simp [h0])
  · obtain ⟨b, off, spot⟩ := x
    have hc := hcell 0 (by omega)
    have hspot : spot = none := by simpa [Addr.add] using World.cell?_spot hc
    subst hspot
    refine .inr ⟨b, off, rfl, lt_of_cell hc, fun j hj => ?_⟩
    have hj' : j < len := by simp at hj; omega
    have := hcell j (by omega)
    rw [Addr.add_lit] at this
    rw [this]
    simp [nth, List.getD_eq_getElem?_getD, hj']
/-- Is it a time? -/
def timeB (n : Int) : Bool := decide (0 ≤ n ∧ n ≤ 1440)
theorem timeB_iff {x : Int} : timeB x = true ↔ 0 ≤ x ∧ x ≤ 1440 := by unfold timeB; exact decide_eq_true_iff
theorem timeB_no {x : Int} : timeB x = false ↔ x < 0 ∨ 1440 < x := by unfold timeB; rw [decide_eq_false_iff_not]; omega
def timesB (l : List Int) : Bool := l.all timeB
theorem nth_mem {l : List Int} {j : Nat} (hj : j < l.length) : nth l j ∈ l := by
  unfold nth
  rw [List.getD_eq_getElem?_getD, List.getElem?_eq_getElem hj]
  exact List.getElem_mem hj
theorem timesB_nth {l : List Int} (h : timesB l = true) {j : Nat} (hj : j < l.length) : timeB (nth l j) = true := List.all_eq_true.1 h _ (nth_mem hj)
theorem timesB_of {l : List Int} (h : ∀ j, j < l.length → timeB (nth l j) = true) : timesB l = true := by
  unfold timesB
  rw [List.all_eq_true]
  intro x hx
  obtain ⟨j, hj, rfl⟩ := List.mem_iff_getElem.1 hx
  have := h j hj
  simpa [nth, List.getD_eq_getElem?_getD, hj] using this
theorem timesB_not {l : List Int} {j : Nat} (hj : j < l.length) (h : timeB (nth l j) = false) : timesB l = false := by
  rw [Bool.eq_false_iff]
  intro e
  rw [timesB_nth e hj] at h
  cases h
/-- Do they rise? -/
def upI (l : List Int) : Bool := (List.range (l.length - 1)).all fun j => decide (nth l j < nth l (j + 1))
theorem upI_iff {l : List Int} : upI l = true ↔ ∀ j, j + 1 < l.length → nth l j < nth l (j + 1) := by
  unfold upI
  rw [List.all_eq_true]
  constructor
  · intro h j hj
    exact of_decide_eq_true (h j (List.mem_range.2 (by omega)))
  · intro h j hj
    exact decide_eq_true (h j (by have := List.mem_range.1 hj; omega))
theorem upI_not {l : List Int} {j : Nat} (hj : j + 1 < l.length) (h : nth l (j + 1) ≤ nth l j) : upI l = false := by
  rw [Bool.eq_false_iff]
  intro e
  have := upI_iff.1 e j hj
  omega
theorem upI_lt {l : List Int} (h : upI l = true) : ∀ (d i : Nat), i + d + 1 < l.length → nth l i < nth l (i + d + 1)
  | 0, i, hi => upI_iff.1 h i hi
  | d + 1, i, hi => by
    have h1 := upI_lt h d i (by omega)
    have h2 := upI_iff.1 h (i + d + 1) hi
    have e : i + (d + 1) + 1 = i + d + 1 + 1 := by omega
    rw [e]
    omega
/-- What is wrong with times. -/
def timesE (l : List Int) : Int := if 40 < l.length then 2 else if timesB l = false then 3 else if upI l = false then 4 else if l.length % 2 = 1 then 1 else 0
theorem timesE_many {l : List Int} (h : 40 < l.length) : timesE l = 2 := by unfold timesE; rw [if_pos h]
theorem timesE_range {l : List Int} (h : ¬ 40 < l.length) (h2 : timesB l = false) : timesE l = 3 := by unfold timesE; rw [if_neg h, if_pos h2]
theorem timesE_state {l : List Int} (h : ¬ 40 < l.length) (h2 : timesB l = true) (h3 : upI l = false) : timesE l = 4 := by unfold timesE; rw [if_neg h, if_neg (by rw [h2]; simp), if_pos h3]
theorem timesE_form {l : List Int} (h : ¬ 40 < l.length) (h2 : timesB l = true) (h3 : upI l = true) (h4 : l.length % 2 = 1) : timesE l = 1 := by unfold timesE; rw [if_neg h, if_neg (by rw [h2]; simp), if_neg (by rw [h3]; simp), if_pos h4]
theorem timesE_ok {l : List Int} (h : ¬ 40 < l.length) (h2 : timesB l = true) (h3 : upI l = true) (h4 : ¬ l.length % 2 = 1) : timesE l = 0 := by unfold timesE; rw [if_neg h, if_neg (by rw [h2]; simp), if_neg (by rw [h3]; simp), if_neg h4]
theorem timesE_zero {l : List Int} (h : timesE l = 0) : l.length ≤ 40 ∧ timesB l = true ∧ upI l = true ∧ l.length % 2 = 0 := by
  unfold timesE at h
  by_cases h1 : 40 < l.length
  · rw [if_pos h1] at h; omega
  · rw [if_neg h1] at h
    cases h2 : timesB l
    · rw [if_pos h2] at h; omega
    · rw [if_neg (by rw [h2]; simp)] at h
      cases h3 : upI l
      · rw [if_pos h3] at h; omega
      · rw [if_neg (by rw [h3]; simp)] at h
        by_cases h4 : l.length % 2 = 1
        · rw [if_pos h4] at h; omega
        · exact ⟨by omega, rfl, rfl, by omega⟩
/-- The minutes of the first k pairs that are from f to t. -/
def one (a b f t : Int) : Int := max 0 (min b t - max a f)
def wsum (l : List Int) (f t : Int) : Nat → Int
  | 0 => 0
  | k + 1 => wsum l f t k + one (nth l (2 * k)) (nth l (2 * k + 1)) f t
/-- How many of the first k times are not later. -/
def upto (l : List Int) (t : Int) : Nat → Int
  | 0 => 0
  | k + 1 => upto l t k + if nth l k ≤ t then 1 else 0
theorem upto_bd (l : List Int) (t : Int) : ∀ k, 0 ≤ upto l t k ∧ upto l t k ≤ k
  | 0 => ⟨by simp [upto], by simp [upto]⟩
  | k + 1 => by
    have := upto_bd l t k
    unfold upto
    split <;> omega
theorem upto_all {l : List Int} {t : Int} : ∀ {k : Nat}, (∀ i, i < k → nth l i ≤ t) → upto l t k = k
  | 0, _ => rfl
  | k + 1, h => by
    rw [upto, upto_all (fun i hi => h i (by omega)), if_pos (h k (by omega))]
    omega
def thereB (l : List Int) (t : Int) : Bool := decide (upto l t l.length % 2 = 1)
/-- The minutes from f on, n of them, in which somebody was there. -/
def mins (l : List Int) (f : Int) : Nat → Int
  | 0 => 0
  | n + 1 => mins l f n + if thereB l (f + n) = true then 1 else 0
theorem mins_bd (l : List Int) (f : Int) : ∀ n, 0 ≤ mins l f n ∧ mins l f n ≤ n
  | 0 => ⟨by simp [mins], by simp [mins]⟩
  | n + 1 => by
    have := mins_bd l f n
    unfold mins
    split <;> omega
theorem wsum_none (l : List Int) (f : Int) : ∀ k, wsum l f f k = 0
  | 0 => rfl
  | k + 1 => by
    rw [wsum, wsum_none l f k]
    unfold one
    omega
theorem wsum_step {l : List Int} (hu : upI l = true) {f t : Int} (hf : f ≤ t) : ∀ k, 2 * k ≤ l.length → wsum l f (t + 1) k = wsum l f t k + upto l t (2 * k) % 2
  | 0, _ => by simp [wsum, upto]
  | k + 1, hk => by
    have ih := wsum_step hu hf k (by omega)
    have hlt := upI_iff.1 hu (2 * k) (by omega)
    rw [wsum, wsum, ih]
    have e : 2 * (k + 1) = 2 * k + 1 + 1 := by omega
    rw [e, upto, upto]
    by_cases h1 : nth l (2 * k) ≤ t
    · have hall : upto l t (2 * k) = (2 * k : Nat) := upto_all fun i hi => by
        obtain ⟨d, hd⟩ : ∃ d, 2 * k = i + d + 1 := ⟨2 * k - i - 1, by omega⟩
        have := upI_lt hu d i (by omega)
        rw [← hd] at this
        omega
      rw [hall, if_pos h1]
      by_cases h2 : nth l (2 * k + 1) ≤ t
      · rw [if_pos h2]
        unfold one
        omega
      · rw [if_neg h2]
        unfold one
        omega
    · rw [if_neg h1, if_neg (by omega)]
      unfold one
      have := upto_bd l t (2 * k)
      omega
theorem mins_wsum {l : List Int} (h : timesE l = 0) (f : Int) : ∀ n : Nat, mins l f n = wsum l f (f + n) (l.length / 2)
  | 0 => by simp [mins, wsum_none]
  | n + 1 => by
    obtain ⟨_, _, hu, h2⟩ := timesE_zero h
    have ih := mins_wsum h f n
    have hs := wsum_step hu (f := f) (t := f + n) (by omega) (l.length / 2) (by omega)
    have e : 2 * (l.length / 2) = l.length := by omega
    rw [e] at hs
    have e2 : f + ((n + 1 : Nat) : Int) = f + n + 1 := by omega
    rw [mins, ih, e2, hs]
    unfold thereB
    have := upto_bd l (f + n) l.length
    by_cases hp : upto l (f + n) l.length % 2 = 1
    · rw [if_pos (decide_eq_true hp)]; omega
    · rw [if_neg (by rw [decide_eq_true_iff]; exact hp)]; omega
theorem mins_add (l : List Int) (f : Int) (n : Nat) : ∀ m : Nat, mins l f (n + m) = mins l f n + mins l (f + n) m
  | 0 => by simp [mins]
  | m + 1 => by
    have ih := mins_add l f n m
    show mins l f (n + m + 1) = _
    have e : f + ((n + m : Nat) : Int) = f + n + m := by omega
    rw [mins, mins, ih, e]
    omega
theorem wsum_mins {l : List Int} (h : timesE l = 0) {f t : Int} (hf : f ≤ t) : wsum l f t (l.length / 2) = mins l f (t - f).toNat := by
  rw [mins_wsum h]
  congr 1
  omega
/-- What is left of the week behind k days; what of a day is no overtime. -/
def leftW (l : List Int) (d : Int) (W : Int) : Nat → Int
  | 0 => W
  | k + 1 => leftW l d W k - min (min (nth l k) d) (leftW l d W k)
def usu (l : List Int) (d W : Int) (k : Nat) : Int := min (min (nth l k) d) (leftW l d W k)
theorem leftW_bd {l : List Int} {d W : Int} (hd : 0 ≤ d) (hW : 0 ≤ W) (h : ∀ j, j < l.length → 0 ≤ nth l j) : ∀ k, k ≤ l.length → 0 ≤ leftW l d W k ∧ leftW l d W k ≤ W
  | 0, _ => ⟨hW, Int.le_refl _⟩
  | k + 1, hk => by
    have ih := leftW_bd hd hW h k (by omega)
    have := h k (by omega)
    rw [leftW]
    omega
end Go.Proofs.Ytikkeidapgmcnaa
