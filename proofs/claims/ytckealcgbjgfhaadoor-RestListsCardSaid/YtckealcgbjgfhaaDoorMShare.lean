/-
  Promise A2 (shares): the plain functions that both texts reckon, and walks of money.firstGreatest, money.shares and money.Share: they come to those functions at every total and every list of weights.
-/
import Derived.Test.YtckealcgbjgfhaaDoorMInts
import Derived.Test.YtckealcgbjgfhaaDoorMRoundU
namespace Go.Proofs.YtckealcgbjgfhaaDoor.Mny
open Go.RowKit

/-- The place of the greatest of the first k numbers, of those alike the first. -/
def fgTo (l : List Int) : Nat → Nat
  | 0 => 0
  | k + 1 => if nth l (fgTo l k) < nth l k then k else fgTo l k
def fg (l : List Int) : Nat := fgTo l l.length
theorem fgTo_lt (l : List Int) (h : 0 < l.length) : ∀ k, k ≤ l.length → fgTo l k < l.length
  | 0, _ => h
  | k + 1, hk => by
    unfold fgTo
    split
    · omega
    · exact fgTo_lt l h k (by omega)
/-- The sum of the first k numbers. -/
def sumTo (l : List Int) : Nat → Int
  | 0 => 0
  | k + 1 => sumTo l k + nth l k
/-- A row that is filled from its beginning. -/
def fillTo (f : Nat → Int) (n : Nat) : Nat → List Int
  | 0 => List.replicate n 0
  | k + 1 => (fillTo f n k).set k (f k)
theorem fillTo_length (f : Nat → Int) (n k : Nat) : (fillTo f n k).length = n := by
  induction k with
  | zero => simp [fillTo]
  | succ k ih => simp [fillTo, ih]
theorem nth_fillTo (f : Nat → Int) (n k j : Nat) (hk : k ≤ n) : nth (fillTo f n k) j = if j < k then f j else 0 := by
  induction k with
  | zero => simp [fillTo, nth_replicate]
  | succ k ih =>
    rw [fillTo, nth_set (by rw [fillTo_length]; omega), ih (by omega)]
    by_cases h1 : j = k
    · subst h1; simp
    · rw [if_neg h1]
      by_cases h2 : j < k
      · rw [if_pos h2, if_pos (by omega)]
      · rw [if_neg h2, if_neg (by omega)]
/-- What is exact of a share, rounded down; and what is left behind the point. -/
def exactP (T S x : Int) : Int := T * x / S
def exactR (T S x : Int) : Int := T * x % S
def leftTo (T S : Int) (l : List Int) : Nat → Int
  | 0 => T
  | k + 1 => leftTo T S l k - exactP T S (nth l k)
/-- Units are given one by one to who has most left. -/
def give : Nat → List Int → List Int → List Int × List Int
  | 0, p, r => (p, r)
  | k + 1, p, r => ((give k p r).1.set (fg (give k p r).2) (nth (give k p r).1 (fg (give k p r).2) + 1), (give k p r).2.set (fg (give k p r).2) (-1))
theorem give_length (k : Nat) (p r : List Int) : (give k p r).1.length = p.length ∧ (give k p r).2.length = r.length := by
  induction k with
  | zero => exact ⟨rfl, rfl⟩
  | succ k ih => simp [give, ih]

set_option maxHeartbeats 1000000 in
theorem firstGreatest_any (b off c : Nat) (l : List Int) (w : World) (h0 : 0 < l.length) (hl : l.length ≤ 1000000000) (h : At w b off l) :
    Calls Tryd.prog 32 #[.slice (some ⟨b, off, none⟩) l.length c] w fun e w' => e = .returned (.int .i64 (fg l : Nat)) ∧ w' = w := by
  have HF : Hid (fg l = fgTo l l.length) := rfl
  have HL : Hid (∀ k, k ≤ l.length → fgTo l k < l.length) := fgTo_lt l h0
  have HC : Hid (∀ j, j < l.length → w.cell? ⟨b, off + j, none⟩ = some (.int .i64 (nth l j))) := h.2
  clear h
  generalize hn : l.length = n at *
  clear hn
  go_enter Tryd.func32, Tryd.ntmps32
  go_wp2
  go_loop [3, 8] (fun best i => ∃ k : Nat, k ≤ n ∧ i = .int .i64 k ∧ best = .int .i64 (fgTo l k : Nat)) (fun _ i => n - (intOf i).toNat)
  case atStart => exact ⟨0, Nat.zero_le _, rfl, rfl⟩
  case round =>
    obtain ⟨k, hk, rfl, rfl⟩ := hrel
    have hq := HL.out k hk
    generalize hqq : fgTo l k = q at *
    have HQ : Hid (fgTo l k = q) := hqq
    clear hqq
    by_cases hlt : k < n
    · have x1 := HC.out k hlt
      have x2 := HC.out q hq
      have hlt' : (k : Int) < (n : Int) := by omega
      have hq' : (q : Int) < (n : Int) := by omega
      have hs : fgTo l (k + 1) = if nth l q < nth l k then k else q := by rw [fgTo, HQ.out]
      have HS : Hid (fgTo l (k + 1) = if nth l q < nth l k then k else q) := hs
      clear hs
      by_cases ht : nth l q < nth l k
      · go_wp2
        go_round
        case rel => exact ⟨k + 1, by omega, by go_num, by rw [HS.out, if_pos ht]⟩
        case measure => simp [intOf]; omega
      · go_wp2
        go_round
        case rel => exact ⟨k + 1, by omega, by go_num, by rw [HS.out, if_neg (by omega)]⟩
        case measure => simp [intOf]; omega
    · go_wp2
      go_ret
      have : k = n := by omega
      subst this
      exact ⟨ret_int (by rw [HF.out, HQ.out]), rfl⟩
end Go.Proofs.YtckealcgbjgfhaaDoor.Mny
