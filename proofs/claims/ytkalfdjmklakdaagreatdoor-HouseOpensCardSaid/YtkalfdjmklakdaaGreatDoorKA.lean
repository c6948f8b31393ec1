/-
  Lists of ints in memory: what it is that a slice holds a list, that it stays so behind what turns only later blocks; and the walks of the reference's Same. No condition beyond those of each theorem.
  Plain mathematics of promise A1 (rounding): the number that a fraction is rounded to by each of six ways, and that both texts' reckonings come to it. No condition beyond those of each theorem.
  Walks of money.stepsAway, money.rounded, money.isWay, money.Round, money.Part and of their references: each returns what the plain functions say, in any world, within the stated bounds.
  Walks of money.rounded, money.isWay, money.Round, money.Part, the checks of money and rates, and of their references: each returns what the plain functions say, in any world.
  Walks of the reference's Round, of money.Part and the reference's Part, of the checks on money and rates, and of the comparisons numberIs and textIs: each returns what the plain functions say, in any world.
  Promise E1: how far a text goes: the walk of span, and of letters and digits. No condition beyond those of each theorem.
  Promise E1: words: walks of isWord and of the reference's IsWord.
  Promise E1: words and names: walks of the reference's IsWord, IsLetter and IsName, and of IsName.
  Promise E1: names: walks of IsName and of the reference's IsName.
  Brackets of a table: how they lie in memory, how a list of them that came in is opened; a table in its box.
  Promise G1: when a table is right; walks of isBracket, of the search for one that is not, of rise, Check and of the reference's CheckTable.
  Promise G1: what is wrong with a table; walks of Check and of the reference's CheckTable.
  Promise G1: walk of the reference's CheckTable.
-/
import Derived.Test.YtkalfdjmklakdaaGreatDoorProg
import Derived.WalkKit
import Derived.WalkSpells
import Derived.WalkLawsBesides
import Derived.Deep.QuietTactic
import Derived.BigQuiet
import Derived.Outline
import Derived.Test.YtkalfdjmklakdaaGreatDoorChecked
import Derived.ProofKit
import Derived.Lib.Hide
import Derived.Laws.RangeAny
import Derived.Laws.RangeString
import Derived.LoopTactic
import Derived.Laws.Unary
import Derived.Laws.Closers25b
import Derived.Deep.Slices
import Derived.ChangeSame
namespace Go.Proofs.YtkalfdjmklakdaaGreatDoor
open Go.RowKit
def nth (l : List Int) (j : Nat) : Int := l.getD j 0
def At (w : World) (b off : Nat) (l : List Int) : Prop := b < w.heap.size ∧ ∀ j, j < l.length → w.cell? ⟨b, off + j, none⟩ = some (.int .i64 (nth l j))
theorem At.cell {w : World} {b off : Nat} {l : List Int} (h : At w b off l) {j : Nat} (hj : j < l.length) : w.cell? ⟨b, off + j, none⟩ = some (.int .i64 (nth l j)) := h.2 j hj
theorem At.below {B : Nat} {w w' : World} {b off : Nat} {l : List Int} (h : At w b off l) (hb : Below B w w') (hB : b < B) : At w' b off l :=
 ⟨Nat.lt_of_lt_of_le h.1 hb.size, fun j hj => (hb.cell (p := ⟨b, off + j, none⟩) hB).trans (h.2 j hj)⟩
theorem At.drewN {w : World} {b off : Nat} {l : List Int} (h : At w b off l) (k : Nat) : At (w.drewN k) b off l := h
theorem nth_ext {a b : List Int} (h : a.length = b.length) (k : ∀ j, j < a.length → nth a j = nth b j) : a = b := by
 apply List.ext_getElem h
 intro j h1 h2
 have := k j h1
 simpa [nth, List.getD_eq_getElem?_getD, h1, h2] using this
theorem nth_set {l : List Int} {i j : Nat} {v : Int} (hi : i < l.length) : nth (l.set i v) j = if j = i then v else nth l j := by
 unfold nth
 rw [List.getD_eq_getElem?_getD, List.getD_eq_getElem?_getD, List.getElem?_set]
 by_cases h : i = j
 ·subst h; simp [hi]
 ·have h' : ¬ j = i := fun e => h e.symm
  simp [h, h']
def Own (w : World) (b : Nat) (l : List Int) : Prop := b < w.heap.size ∧ ∀ j, j < l.length → w.cell? ⟨b, j, none⟩ = some (.int .i64 (nth l j)) ∧ w.frozen? ⟨b, j, none⟩ = false
theorem Own.cell {w : World} {b : Nat} {l : List Int} (h : Own w b l) {j : Nat} (hj : j < l.length) : w.cell? ⟨b, j, none⟩ = some (.int .i64 (nth l j)) := (h.2 j hj).1
theorem Own.free {w : World} {b : Nat} {l : List Int} (h : Own w b l) {j : Nat} (hj : j < l.length) : w.frozen? ⟨b, j, none⟩ = false := (h.2 j hj).2
theorem Own.at {w : World} {b : Nat} {l : List Int} (h : Own w b l) : At w b 0 l := ⟨h.1, fun j hj => by rw [Nat.zero_add]; exact h.cell hj⟩
theorem Own.drewN {w : World} {b : Nat} {l : List Int} (h : Own w b l) (k : Nat) : Own (w.drewN k) b l := h
theorem Own.alloc {w : World} {b : Nat} {l : List Int} (h : Own w b l) (o : Obj) : Own (w.alloc o) b l :=
 ⟨by have := h.1; simp; omega, fun j hj => by
  rw [World.cell?_alloc_past (w := w) o b j h.1, World.frozen?_alloc_past (w := w) o b j h.1]; exact h.2 j hj⟩
theorem Own.set {w : World} {b : Nat} {l : List Int} (h : Own w b l) {j : Nat} (hj : j < l.length) (v : Int) : Own (w.setCell ⟨b, j, none⟩ (.int .i64 v)) b (l.set j v) := by
 refine ⟨by have := h.1; simpa [World.setCell] using this, fun i hi => ?_⟩
 rw [List.length_set] at hi
 rw [World.frozen?_setCell, nth_set hj]
 refine ⟨?_, h.free hi⟩
 by_cases e : i = j
 ·subst e; rw [if_pos rfl]; exact World.cell?_setCell_same w _ _ (h.cell hi)
 ·rw [if_neg e, World.cell?_setCell_other (w := w) (h := fun x => e (congrArg Addr.off x).symm)]; exact h.cell hi
theorem Own.other {w : World} {b b' : Nat} {l : List Int} (h : Own w b l) (hb : b ≠ b') (j : Nat) (v : Value) : Own (w.setCell ⟨b', j, none⟩ v) b l := by
 refine ⟨by have := h.1; simpa [World.setCell] using this, fun i hi => ?_⟩
 rw [World.frozen?_setCell, World.cell?_setCell_other (w := w) (h := fun x => hb (congrArg Addr.block x).symm)]
 exact h.2 i hi
theorem nth_replicate (n j : Nat) : nth (List.replicate n 0) j = 0 := by
 unfold nth
 rw [List.getD_eq_getElem?_getD, List.getElem?_replicate]
 split <;> rfl
theorem Own.made (w : World) (n : Nat) (t : TypeId) : Own (w.alloc (.cells (madeCells #[.int .i64 0] n) t)) w.heap.size (List.replicate n 0) := by
 refine ⟨by simp, fun j hj => ?_⟩
 rw [List.length_replicate] at hj
 rw [World.cell?_alloc_at (w := w) _ _ _ _ rfl, World.frozen?_alloc_at (w := w) _ _ _ _ rfl, nth_replicate]
 refine ⟨?_, rfl⟩
 have := toList_madeCells_one (.int .i64 0) n
 rw [← Array.getElem?_toList, this, List.getElem?_replicate, if_pos hj]
theorem same_yes (b1 o1 c1 b2 o2 c2 : Nat) (l : List Int) (w : World) (hl : l.length ≤ 1000000000) (h1 : At w b1 o1 l) (h2 : At w b2 o2 l) :
 Calls Tryz.prog 15 #[.slice (some ⟨b1, o1, none⟩) l.length c1, .slice (some ⟨b2, o2, none⟩) l.length c2] w fun e w' => e = .returned (.bool true) ∧ ∃ k, w' = w.drewN k := by
 generalize hn : l.length = n at *
 have hc1 : ∀ j, j < n → w.cell? ⟨b1, o1 + j, none⟩ = some (.int .i64 (nth l j)) := fun j hj => h1.2 j (by omega)
 have hc2 : ∀ j, j < n → w.cell? ⟨b2, o2 + j, none⟩ = some (.int .i64 (nth l j)) := fun j hj => h2.2 j (by omega)
 clear h1 h2 hn
 have H1 : Hid (∀ j, j < n → w.cell? ⟨b1, o1 + j, none⟩ = some (.int .i64 (nth l j))) := hc1
 have H2 : Hid (∀ j, j < n → w.cell? ⟨b2, o2 + j, none⟩ = some (.int .i64 (nth l j))) := hc2
 clear hc1 hc2
 have hb : ((n : Int) != (n : Int)) = false := by simp
 go_enter Tryz.func15, Tryz.ntmps15
 go_wp2
 go_loopw [5] (fun i wr => ∃ k : Nat, k ≤ n ∧ i = .int .i64 k ∧ ∃ q, wr = w.drewN q) (fun i _ => n - (intOf i).toNat)
 case atStart => exact ⟨0, Nat.zero_le _, rfl, 0, rfl⟩
 case round =>
  obtain ⟨k, hk, rfl, q, rfl⟩ := hrel
  by_cases hlt : k < n
  ·have x1 := H1.out k hlt
   have x2 := H2.out k hlt
   have hlt' : (k : Int) < (n : Int) := by omega
   go_wp2
   go_quiet (fail)
   go_wp2
   go_roundw
   case rel => exact ⟨k + 1, by omega, by go_num, _, rfl⟩
   case measure => simp [intOf]; omega
  ·go_wp2
   go_ret
   exact ⟨rfl, _, rfl⟩
end Go.Proofs.YtkalfdjmklakdaaGreatDoor
namespace Go.Proofs.YtkalfdjmklakdaaGreatDoor
def goesUp (n d way : Int) : Bool :=
 if way = 1 then decide (n < 0)
 else if way = 2 then decide (0 < n)
 else if way = 4 then true
 else if way = 5 then decide (d < 2 * (n % d)) || (decide (2 * (n % d) = d) && decide (0 < n))
 else if way = 6 then decide (d < 2 * (n % d)) || (decide (2 * (n % d) = d) && decide ((n / d) % 2 ≠ 0))
 else false
def rd (n d way : Int) : Int := if n % d = 0 then n / d else if goesUp n d way = true then n / d + 1 else n / d
def stepsB (whole rest d way : Int) : Bool :=
 if way = 2 then true
 else if way = 3 then decide (rest < 0)
 else if way = 4 then decide (0 < rest)
 else if way = 5 then decide (d ≤ 2 * max rest (-rest))
 else if way = 6 then decide (d < 2 * max rest (-rest)) || (decide (2 * max rest (-rest) = d) && decide (whole.tmod 2 ≠ 0))
 else false
def rdP (n d way : Int) : Int :=
 if n.tmod d = 0 ∨ stepsB (n.tdiv d) (n.tmod d) d way = false then n.tdiv d else if n < 0 then n.tdiv d - 1 else n.tdiv d + 1
theorem tdiv_facts (n d : Int) (hd : 1 ≤ d) : n.tdiv d * d + n.tmod d = n ∧ (0 ≤ n → 0 ≤ n.tmod d ∧ n.tmod d < d) ∧ (n ≤ 0 → n.tmod d ≤ 0 ∧ -d < n.tmod d) := by
 refine ⟨by have := Int.tdiv_mul_add_tmod n d; omega, fun h => ⟨Int.tmod_nonneg d h, Int.tmod_lt_of_pos n (by omega)⟩, fun h => ?_⟩
 have h1 : (-n).tmod d = -(n.tmod d) := Int.neg_tmod n d
 have h2 := Int.tmod_nonneg d (a := -n) (by omega)
 have h3 := Int.tmod_lt_of_pos (-n) (b := d) (by omega)
 omega
theorem ediv_facts (n d : Int) (hd : 1 ≤ d) : n / d * d + n % d = n ∧ 0 ≤ n % d ∧ n % d < d :=
 ⟨by have := Int.ediv_mul_add_emod n d; omega, Int.emod_nonneg n (by omega), Int.emod_lt_of_pos n (by omega)⟩
theorem tdiv_floor (n d : Int) (hd : 1 ≤ d) :
 (n.tmod d = n % d ∧ n.tdiv d = n / d ∧ 0 ≤ n.tmod d) ∨ (n < 0 ∧ n % d ≠ 0 ∧ n.tmod d = n % d - d ∧ n.tdiv d = n / d + 1 ∧ n.tmod d < 0) := by
 obtain ⟨a, b, c⟩ := tdiv_facts n d hd
 obtain ⟨e, f, g⟩ := ediv_facts n d hd
 generalize hq : n.tdiv d = q at *
 generalize hr : n.tmod d = r at *
 generalize hQ : n / d = Q at *
 generalize hR : n % d = R at *
 clear hq hr hQ hR
 have key : (q - Q) * d = R - r := by rw [Int.sub_mul]; omega
 by_cases h0 : 0 ≤ r
 ·left
  have hr2 : r < d := by
   by_cases h : 0 ≤ n
   ·exact (b h).2
   ·have := (c (by omega)).1; omega
  have hqq : q - Q = 0 := by
   rcases Int.lt_trichotomy (q - Q) 0 with h | h | h
   ·have : (q - Q) * d ≤ (-1) * d := Int.mul_le_mul_of_nonneg_right (by omega) (by omega)
    omega
   ·exact h
   ·have : 1 * d ≤ (q - Q) * d := Int.mul_le_mul_of_nonneg_right (by omega) (by omega)
    omega
  rw [hqq] at key
  omega
 ·right
  have hn : n < 0 := by
   by_cases h : 0 ≤ n
   ·have := (b h).1; omega
   ·omega
  have hr2 := (c (by omega)).2
  have hqq : q - Q = 1 := by
   rcases Int.lt_trichotomy (q - Q) 1 with h | h | h
   ·have : (q - Q) * d ≤ 0 * d := Int.mul_le_mul_of_nonneg_right (by omega) (by omega)
    omega
   ·exact h
   ·have : 2 * d ≤ (q - Q) * d := Int.mul_le_mul_of_nonneg_right (by omega) (by omega)
    omega
  rw [hqq] at key
  omega
theorem tmod2 (x : Int) : (x.tmod 2 = 0 ↔ x % 2 = 0) := by
 have h := tdiv_floor x 2 (by omega)
 omega
theorem rdP_eq (n d way : Int) (hd : 1 ≤ d) (h1 : 1 ≤ way) (h6 : way ≤ 6) : rdP n d way = rd n d way := by
 obtain ⟨e, f, g⟩ := ediv_facts n d hd
 obtain ⟨a, b, c⟩ := tdiv_facts n d hd
 have t2 := tmod2 (n.tdiv d)
 have hw : way = 1 ∨ way = 2 ∨ way = 3 ∨ way = 4 ∨ way = 5 ∨ way = 6 := by omega
 rcases tdiv_floor n d hd with ⟨h1, h2, h3⟩ | ⟨hn, h0, h1, h2, h3⟩
 ·have hm : max (n.tmod d) (-(n.tmod d)) = n % d := by omega
  unfold rdP rd stepsB goesUp
  rw [hm, h1, h2]
  rw [h2] at t2
  rw [h1] at b c
  generalize n / d = Q at *
  generalize n % d = R at *
  clear a h1 h2 hm
  have hn : R ≠ 0 → 0 < n := fun h => by
   by_cases h' : 0 < n
   ·exact h'
   ·have := c (by omega); omega
  by_cases hR : R = 0
  ·simp [hR]
  ·have hn' := hn hR
   have hn'' : ¬ n < 0 := by omega
   rcases hw with rfl | rfl | rfl | rfl | rfl | rfl <;> simp [hR, hn', hn''] <;> (repeat' split) <;> simp_all <;> omega
 ·have hm : max (n.tmod d) (-(n.tmod d)) = d - n % d := by omega
  unfold rdP rd stepsB goesUp
  rw [hm, h1, h2]
  rw [h2] at t2
  rw [h1] at b c
  generalize n / d = Q at *
  generalize n % d = R at *
  clear a h1 h2 hm
  have hR : R ≠ 0 := h0
  have hx : ¬ R - d = 0 := by omega
  have hn'' : ¬ 0 < n := by omega
  rcases hw with rfl | rfl | rfl | rfl | rfl | rfl <;> simp [hR, hx, hn, hn''] <;> (repeat' split) <;> simp_all <;> omega
theorem rd_near (n d way : Int) (hd : 1 ≤ d) : -d < rd n d way * d - n ∧ rd n d way * d - n < d := by
 obtain ⟨e, f, g⟩ := ediv_facts n d hd
 unfold rd
 split
 ·omega
 ·split
  ·rw [Int.add_mul]; omega
  ·omega
theorem rd_half (n d way : Int) (hd : 1 ≤ d) (hw : way = 5 ∨ way = 6) : -d ≤ 2 * (rd n d way * d - n) ∧ 2 * (rd n d way * d - n) ≤ d := by
 obtain ⟨e, f, g⟩ := ediv_facts n d hd
 unfold rd
 split
 ·omega
 ·have h5 : goesUp n d way = true → d ≤ 2 * (n % d) := by
   intro h; unfold goesUp at h; rcases hw with rfl | rfl <;> simp at h <;> omega
  have h6 : goesUp n d way ≠ true → 2 * (n % d) ≤ d := by
   intro h; unfold goesUp at h; rcases hw with rfl | rfl <;> simp at h <;> omega
  split
  ·have := h5 ‹_›; rw [Int.add_mul]; omega
  ·have := h6 ‹_›; omega
theorem rd_mono (n m d way : Int) (hd : 1 ≤ d) (h1 : 1 ≤ way) (h6 : way ≤ 6) (h : n ≤ m) : rd n d way ≤ rd m d way := by
 obtain ⟨e, f, g⟩ := ediv_facts n d hd
 obtain ⟨e', f', g'⟩ := ediv_facts m d hd
 have hQ : n / d ≤ m / d := Int.ediv_le_ediv (by omega) h
 have hlo : ∀ x, x / d ≤ rd x d way ∧ rd x d way ≤ x / d + 1 := by
  intro x; unfold rd; split
  ·omega
  ·split <;> omega
 by_cases hlt : n / d < m / d
 ·have a := hlo n; have b := hlo m; omega
 ·have hq : n / d = m / d := by omega
  have hneg : n < 0 → m / d < 0 := fun hn => by
   have : n / d < 0 := Int.ediv_neg_of_neg_of_pos hn (by omega)
   omega
  have hm0 : n < 0 → m < 0 := fun hn => by
   have h3 := hneg hn
   have : m / d * d ≤ (-1) * d := Int.mul_le_mul_of_nonneg_right (by omega) (by omega)
   omega
  have hR : n % d ≤ m % d := by rw [hq] at e; omega
  unfold rd goesUp
  rw [← hq]
  generalize n / d = Q at *
  generalize n % d = R at *
  generalize m % d = R' at *
  have hw : way = 1 ∨ way = 2 ∨ way = 3 ∨ way = 4 ∨ way = 5 ∨ way = 6 := by omega
  rcases hw with rfl | rfl | rfl | rfl | rfl | rfl <;> simp <;> (repeat' split) <;> simp_all <;> omega
def turned (way : Int) : Int := if way = 3 ∨ way = 4 then 7 - way else way
theorem rdP_neg (n d way : Int) (h1 : 1 ≤ way) (h6 : way ≤ 6) (hd : 1 ≤ d) : rdP (-n) d (turned way) = -rdP n d way := by
 have hw : way = 1 ∨ way = 2 ∨ way = 3 ∨ way = 4 ∨ way = 5 ∨ way = 6 := by omega
 obtain ⟨a, b, c⟩ := tdiv_facts n d hd
 unfold rdP
 rw [Int.neg_tmod, Int.neg_tdiv]
 have hs : stepsB (-(n.tdiv d)) (-(n.tmod d)) d (turned way) = stepsB (n.tdiv d) (n.tmod d) d way := by
  have hm : max (-(n.tmod d)) (- -(n.tmod d)) = max (n.tmod d) (-(n.tmod d)) := by omega
  have h2 : (-(n.tdiv d)).tmod 2 = -((n.tdiv d).tmod 2) := Int.neg_tmod _ _
  unfold stepsB turned
  rw [hm, h2]
  generalize max (n.tmod d) (-(n.tmod d)) = M
  generalize (n.tdiv d).tmod 2 = T
  rcases hw with rfl | rfl | rfl | rfl | rfl | rfl <;> simp
 rw [hs]
 by_cases h0 : n.tmod d = 0
 ·simp [h0]
 ·have : ¬ -(n.tmod d) = 0 := by omega
  have hne : n ≠ 0 := by rintro rfl; simp at h0
  by_cases hs' : stepsB (n.tdiv d) (n.tmod d) d way = false
  ·simp [hs']
  ·by_cases hn : n < 0
   ·have : ¬ -n < 0 := by omega
    simp [h0, hs', hn]; omega
   ·have : -n < 0 := by omega
    simp [h0, hs', hn]; omega
theorem rd_neg (n d way : Int) (hd : 1 ≤ d) (h1 : 1 ≤ way) (h6 : way ≤ 6) : rd (-n) d (turned way) = -rd n d way := by
 rw [← rdP_eq _ _ _ hd h1 h6, ← rdP_eq _ _ _ hd (by unfold turned; split <;> omega) (by unfold turned; split <;> omega)]
 exact rdP_neg n d way h1 h6 hd
theorem rd_bound (n d way : Int) (hd : 1 ≤ d) (hn : -1000000000000000000 ≤ n) (hn' : n ≤ 1000000000000000000) : -1000000000000000001 ≤ rd n d way ∧ rd n d way ≤ 1000000000000000001 := by
 obtain ⟨e, f, g⟩ := ediv_facts n d hd
 have hlo : n / d ≤ rd n d way ∧ rd n d way ≤ n / d + 1 := by
  unfold rd; split
  ·omega
  ·split <;> omega
 have h1 : -1000000000000000000 ≤ n / d := Int.le_ediv_of_mul_le (by omega) (by
  have : (-1000000000000000000) * d ≤ (-1000000000000000000) * 1 := Int.mul_le_mul_of_nonpos_left (by omega) (by omega)
  omega)
 have h2 : n / d ≤ 1000000000000000000 := by
  by_cases h : 0 ≤ n
  ·exact Int.le_trans (Int.ediv_le_self d h) hn'
  ·have : n / d < 0 := Int.ediv_neg_of_neg_of_pos (by omega) (by omega)
   omega
 omega
end Go.Proofs.YtkalfdjmklakdaaGreatDoor
namespace Go.Proofs.YtkalfdjmklakdaaGreatDoor
open Go.RowKit
theorem ret_bool {a b : Bool} (h : a = b) : Ending.returned (.bool a) = .returned (.bool b) := by rw [h]
theorem ret_int {k : IntKind} {a b : Int} (h : a = b) : Ending.returned (.int k a) = .returned (.int k b) := by rw [h]
theorem max_le {r : Int} (h : -r ≤ r) : max r (-r) = r := by omega
theorem max_lt {r : Int} (h : r < -r) : max r (-r) = -r := by omega
theorem q_bound (n d : Int) (hd : 1 ≤ d) (hn : -1000000000000000000 ≤ n) (hn' : n ≤ 1000000000000000000) :
 -1000000000000000000 ≤ n.tdiv d ∧ n.tdiv d ≤ 1000000000000000000 ∧ -1000000000000000000 ≤ n / d ∧ n / d ≤ 1000000000000000000 := by
 have h0 := rd_bound n d 3 hd hn hn'
 have h1 : -1000000000000000000 ≤ n / d := Int.le_ediv_of_mul_le (by omega) (by
  have : (-1000000000000000000) * d ≤ (-1000000000000000000) * 1 := Int.mul_le_mul_of_nonpos_left (by omega) (by omega)
  omega)
 have h2 : n / d ≤ 1000000000000000000 := by
  by_cases h : 0 ≤ n
  ·exact Int.le_trans (Int.ediv_le_self d h) hn'
  ·have : n / d < 0 := Int.ediv_neg_of_neg_of_pos (by omega) (by omega)
   omega
 have h3 := tdiv_floor n d hd
 rcases h3 with ⟨_, h, _⟩ | ⟨hn, _, _, h, _⟩
 ·omega
 ·have : n / d < 0 := Int.ediv_neg_of_neg_of_pos (by omega) (by omega)
  omega
end Go.Proofs.YtkalfdjmklakdaaGreatDoor
namespace Go.Proofs.YtkalfdjmklakdaaGreatDoor
open Go.RowKit
def wayB (way : Int) : Bool := decide (1 ≤ way ∧ way ≤ 6)
def rngB (n d : Int) : Bool := decide (1 ≤ d ∧ d ≤ 1000000 ∧ -1000000000000000000 ≤ n ∧ n ≤ 1000000000000000000)
def rvE (n d way : Int) : Int := if wayB way = true then (if rngB n d = true then 0 else 3) else 7
def rvN (n d way : Int) : Int := if wayB way = true ∧ rngB n d = true then rd n d way else 0
theorem rv_range {n d way : Int} (hw : wayB way = true) (h : rngB n d = false) : rvN n d way = 0 ∧ rvE n d way = 3 := by simp [rvN, rvE, hw, h]
theorem rv_ok {n d way : Int} (hw : wayB way = true) (h : rngB n d = true) : rvN n d way = rd n d way ∧ rvE n d way = 0 := by simp [rvN, rvE, hw, h]
theorem rv_kind {n d way : Int} (hw : wayB way = false) : rvN n d way = 0 ∧ rvE n d way = 7 := by simp [rvN, rvE, hw]
theorem ret2 {a b c d : Int} (h : a = b) (k : c = d) : Ending.returned (.tuple #[.int .i64 a, .int .i64 c]) = .returned (.tuple #[.int .i64 b, .int .i64 d]) := by rw [h, k]
end Go.Proofs.YtkalfdjmklakdaaGreatDoor
namespace Go.Proofs.YtkalfdjmklakdaaGreatDoor
open Go.RowKit
/-! ### The checks -/
def monB (n : Int) : Bool := decide (-1000000000000 ≤ n ∧ n ≤ 1000000000000)
def ratB (n : Int) : Bool := decide (0 ≤ n ∧ n ≤ 1000000)
theorem isMoney_any (n : Int) (w : World) : Calls Tryz.prog 212 #[.int .i64 n] w fun e w' => e = .returned (.bool (monB n)) ∧ w' = w := by
 by_cases h1 : -1000000000000 ≤ n
 ·by_cases h2 : n ≤ 1000000000000
  ·have H : Hid (monB n = true) := decide_eq_true ⟨h1, h2⟩
   go_enter Tryz.func212, Tryz.ntmps212
   go_wp2
   go_ret
   exact ⟨ret_bool (by rw [H.out]; try (simp <;> omega)), rfl⟩
  ·have H : Hid (monB n = false) := decide_eq_false (by omega)
   go_enter Tryz.func212, Tryz.ntmps212
   go_wp2
   go_ret
   exact ⟨ret_bool (by rw [H.out]; try (simp <;> omega)), rfl⟩
 ·have H : Hid (monB n = false) := decide_eq_false (by omega)
  have hd : decide (-1000000000000 ≤ n) = false := decide_eq_false h1
  go_enter Tryz.func212, Tryz.ntmps212
  go_wp2
  go_ret
  exact ⟨ret_bool (by rw [H.out]), rfl⟩
end Go.Proofs.YtkalfdjmklakdaaGreatDoor
namespace Go.Proofs.YtkalfdjmklakdaaGreatDoor
open Go.RowKit
theorem tret_bool {a b : Bool} (h : a = b) : Ending.returned (.bool a) = .returned (.bool b) := by rw [h]
theorem tret_int {k : IntKind} {a b : Int} (h : a = b) : Ending.returned (.int k a) = .returned (.int k b) := by rw [h]
def bt (s : ByteArray) (j : Nat) : Int := if h : j < s.size then (s[j].toNat : Int) else -1
theorem bt_in {s : ByteArray} {j : Nat} (h : j < s.size) : bt s j = (s[j].toNat : Int) := by unfold bt; rw [dif_pos h]
theorem bt_out {s : ByteArray} {j : Nat} (h : ¬ j < s.size) : bt s j = -1 := by unfold bt; rw [dif_neg h]
def SpanIs (P : Int → Bool) (s : ByteArray) (n : Nat) : Prop := n ≤ s.size ∧ (∀ k, k < n → P (bt s k) = true) ∧ (n < s.size → P (bt s n) = false)
theorem SpanIs.unique {P : Int → Bool} {s : ByteArray} {n m : Nat} (h : SpanIs P s n) (h' : SpanIs P s m) : n = m := by
 obtain ⟨a1, a2, a3⟩ := h
 obtain ⟨b1, b2, b3⟩ := h'
 rcases (show n < m ∨ n = m ∨ m < n by omega) with e | e | e
 ·have := a3 (by omega)
  rw [b2 n e] at this
  cases this
 ·exact e
 ·have := b3 (by omega)
  rw [a2 m e] at this
  cases this
theorem decode_wide (s : ByteArray) (pos : Nat) (h : pos < s.size) (ha : 128 ≤ (s[pos]'h).toNat) : ∀ k, k < (Utf8.decode s pos).2 → pos + k < s.size ∧ 128 ≤ bt s (pos + k) := by
 have key : ∀ k, pos + k < s.size → 128 ≤ (s.get! (pos + k)).toNat → pos + k < s.size ∧ 128 ≤ bt s (pos + k) := by
  intro k hin hk
  refine ⟨hin, ?_⟩
  rw [bt_in hin]
  have e : s.get! (pos + k) = s[pos + k] := by
   simp [ByteArray.get!, getElem!_pos, hin]
   rfl
  rw [e] at hk
  omega
 have h0 : 128 ≤ (s.get! (pos + 0)).toNat := by
  have e : s.get! (pos + 0) = s[pos]'h := by
   show s.get! pos = _
   simp [ByteArray.get!, getElem!_pos, h]
   rfl
  rw [e]
  exact ha
 have hn : ¬ (s.get! (pos + 0)).toNat < 128 := by omega
 have k0 := key 0 (by omega) h0
 have cont : ∀ k, (decide (pos + k < s.size) && (s.get! (pos + k)).toNat / 64 == 2) = true → pos + k < s.size ∧ 128 ≤ bt s (pos + k) := fun k hk => by
  rw [Bool.and_eq_true, decide_eq_true_eq, beq_iff_eq] at hk
  exact key k hk.1 (by omega)
 intro k hk
 unfold Utf8.decode at hk
 simp only [hn, if_false] at hk
 split at hk
 ·rename_i h1
  rw [Bool.and_eq_true] at h1
  have k1 := cont 1 h1.2
  split at hk
  ·have : k = 0 ∨ k = 1 := by simp at hk; omega
   rcases this with rfl | rfl
   ·exact k0
   ·exact k1
  ·obtain rfl : k = 0 := by simp at hk; omega
   exact k0
 ·split at hk
  ·rename_i h1
   rw [Bool.and_eq_true, Bool.and_eq_true] at h1
   have k1 := cont 1 h1.1.2
   have k2 := cont 2 h1.2
   split at hk
   ·have : k = 0 ∨ k = 1 ∨ k = 2 := by simp at hk; omega
    rcases this with rfl | rfl | rfl
    ·exact k0
    ·exact k1
    ·exact k2
   ·obtain rfl : k = 0 := by simp at hk; omega
    exact k0
  ·split at hk
   ·rename_i h1
    rw [Bool.and_eq_true, Bool.and_eq_true, Bool.and_eq_true] at h1
    have k1 := cont 1 h1.1.1.2
    have k2 := cont 2 h1.1.2
    have k3 := cont 3 h1.2
    split at hk
    ·have : k = 0 ∨ k = 1 ∨ k = 2 ∨ k = 3 := by simp at hk; omega
     rcases this with rfl | rfl | rfl | rfl
     ·exact k0
     ·exact k1
     ·exact k2
     ·exact k3
    ·obtain rfl : k = 0 := by simp at hk; omega
     exact k0
   ·obtain rfl : k = 0 := by simp at hk; omega
    exact k0
theorem iter_below (w : World) (s : ByteArray) (pos : Nat) : Below w.heap.size w (w.iter s pos) := (Below.refl w.heap.size w).alloc (Nat.le_refl _) _
def letB (r : Int) : Bool := decide (97 ≤ r ∧ r ≤ 122)
def digB (r : Int) : Bool := decide (48 ≤ r ∧ r ≤ 57)
def blkB (r : Int) : Bool := decide (r = 32 ∨ r = 9 ∨ r = 10)
def nlfB (r : Int) : Bool := decide (r ≠ 10)
theorem letB_hi (r : Int) (h : 128 ≤ r) : letB r = false := decide_eq_false (by omega)
theorem digB_hi (r : Int) (h : 128 ≤ r) : digB r = false := decide_eq_false (by omega)
theorem blkB_hi (r : Int) (h : 128 ≤ r) : blkB r = false := decide_eq_false (by omega)
theorem nlfB_hi (r : Int) (h : 128 ≤ r) : nlfB r = true := decide_eq_true (by omega)
theorem letters_one (r : Int) (w : World) : Calls Tryz.prog 214 #[.int .i32 r] w fun e w' => e = .returned (.bool (letB r)) ∧ w' = w := by
 by_cases h1 : 97 ≤ r
 ·have H : Hid (letB r = decide (r ≤ 122)) := by unfold Hid letB; simp [h1]
  go_enter Tryz.func214, Tryz.ntmps214
  go_wp2
  go_ret
  exact ⟨tret_bool (by rw [H.out]; try rfl), rfl⟩
 ·have H : Hid (letB r = false) := decide_eq_false (by omega)
  have hd : decide (97 ≤ r) = false := decide_eq_false h1
  go_enter Tryz.func214, Tryz.ntmps214
  go_wp2
  go_ret
  exact ⟨tret_bool (by rw [H.out]; try rfl), rfl⟩
set_option maxRecDepth 100000 in
set_option maxHeartbeats 1000000 in
theorem span_letters (s : ByteArray) (w : World) :
 Calls Tryz.prog 213 #[.string s, .func (.func 214) #[] #[]] w fun e w' => ∃ n : Nat, e = .returned (.int .i64 (n : Int)) ∧ SpanIs letB s n ∧ Below w.heap.size w w' := by
 go_enter Tryz.func213, Tryz.ntmps213
 go_wp2_with fail
 go_loopw [] (fun w' => ∃ pos : Nat, w' = w.iter s pos ∧ pos ≤ s.size ∧ ∀ k, k < pos → letB (bt s k) = true) (fun w' => s.size - w'.iterPos w.heap.size)
 case atStart => exact ⟨0, rfl, Nat.zero_le _, fun k hk => absurd hk (by omega)⟩
 case round =>
  obtain ⟨pos, rfl, hpos, hall⟩ := hrel
  have HA := Lib.hid hall
  clear hall
  by_cases hp : pos < s.size
  ·have hnx : ∀ ty, (Instr.next (.pointer (some ⟨w.heap.size, 0, none⟩)) true ty).run Tryz.prog (w.iter s pos) = _ := fun ty => run_next_any w s pos ty hp
   have HW : Hid (1 ≤ (Utf8.decode s pos).2 ∧ pos + (Utf8.decode s pos).2 ≤ s.size ∧ letB ((Utf8.decode s pos).1 : Int) = letB (bt s pos) ∧ (letB (bt s pos) = true → ∀ k, k < pos + (Utf8.decode s pos).2 → letB (bt s k) = true)) := by
    have hbp := bt_in hp
    by_cases ha : (s[pos]'hp).toNat < 128
    ·rw [Hid, decode_ascii s pos hp ha]
     refine ⟨Nat.le_refl _, hp, by rw [hbp], fun h k hk => ?_⟩
     rcases (show k < pos ∨ k = pos by simp at hk; omega) with h' | rfl
     ·exact HA.out k h'
     ·exact h
    ·have h1 := decode_high s pos hp (by omega)
     have h2 := decode_wide s pos hp (by omega)
     refine ⟨h1.2, ?_, ?_, fun h k hk => ?_⟩
     ·have := (h2 ((Utf8.decode s pos).2 - 1) (by omega)).1
      omega
     ·rw [letB_hi _ (by omega), letB_hi _ (by rw [hbp]; omega)]
     ·by_cases e : k < pos
      ·exact HA.out k e
      ·obtain ⟨q, rfl⟩ : ∃ q, k = pos + q := ⟨k - pos, by omega⟩
       exact (letB_hi _ (h2 q (by omega)).2).trans ((letB_hi (bt s pos) (by rw [hbp]; omega)).symm.trans h)
   have HC := Lib.hid (fun w => letters_one ((Utf8.decode s pos).1 : Int) w)
   obtain ⟨hw1, hw2, HW3, HW4⟩ := HW.out
   have HW3 := Lib.hid HW3
   have HW4 := Lib.hid HW4
   clear HW
   generalize hr : ((Utf8.decode s pos).1 : Int) = r at *
   clear hr
   cases hb : letB r
   ·go_wp2_with fail
    refine (HC.out _).mono ?_
    rintro e w' ⟨rfl, h'⟩
    subst w'
    rw [hb]
    go_wp2_with fail
    go_ret
    exact ⟨pos, rfl, ⟨hpos, HA.out, fun _ => by rw [← HW3.out]; exact hb⟩, iter_below _ _ _⟩
   ·have HT := Lib.hid (HW4.out (by rw [← HW3.out]; exact hb))
    go_wp2_with fail
    refine (HC.out _).mono ?_
    rintro e w' ⟨rfl, h'⟩
    subst w'
    rw [hb]
    go_wp2_with fail
    go_roundw
    case rel => exact ⟨_, rfl, hw2, HT.out⟩
    case measure => simp; omega
  ·obtain rfl : pos = s.size := by omega
   have hnx : ∀ ty, (Instr.next (.pointer (some ⟨w.heap.size, 0, none⟩)) true ty).run Tryz.prog (w.iter s s.size) = _ := fun ty => run_next_end w s s.size ty hp
   go_wp2_with fail
   go_ret
   exact ⟨s.size, rfl, ⟨Nat.le_refl _, HA.out, fun h => absurd h hp⟩, iter_below _ _ _⟩
theorem letters_any (s : ByteArray) (w : World) : Calls Tryz.prog 178 #[.string s] w fun e w' => ∃ n : Nat, e = .returned (.int .i64 (n : Int)) ∧ SpanIs letB s n ∧ Below w.heap.size w w' := by
 go_enter Tryz.func178, Tryz.ntmps178
 go_wp2_with fail
 refine (span_letters s w).mono ?_
 rintro e w1 ⟨n, rfl, h1, h2⟩
 have H1 := Lib.hid h1
 have H2 := Lib.hid h2
 clear h1 h2
 go_wp2_with fail
 go_ret
 exact ⟨n, rfl, H1.out, H2.out⟩
end Go.Proofs.YtkalfdjmklakdaaGreatDoor
namespace Go.Proofs.YtkalfdjmklakdaaGreatDoor
open Go.RowKit
def wordsL : List (List UInt8) := [[101, 97, 114, 110], [116, 97, 107, 101], [116, 97, 120], [108, 101, 116], [105, 102], [116, 104, 101, 110], [101, 108, 115, 101], [111, 102], [121, 101, 97, 114], [116, 97, 98, 108, 101], [109, 105, 110], [109, 97, 120]]
def wordB (s : ByteArray) : Bool := decide (s.toList ∈ wordsL)
theorem wordB_no (s : ByteArray) (h0 : s.toList ≠ [101, 97, 114, 110]) (h1 : s.toList ≠ [116, 97, 107, 101]) (h2 : s.toList ≠ [116, 97, 120]) (h3 : s.toList ≠ [108, 101, 116]) (h4 : s.toList ≠ [105, 102]) (h5 : s.toList ≠ [116, 104, 101, 110]) (h6 : s.toList ≠ [101, 108, 115, 101]) (h7 : s.toList ≠ [111, 102]) (h8 : s.toList ≠ [121, 101, 97, 114]) (h9 : s.toList ≠ [116, 97, 98, 108, 101]) (h10 : s.toList ≠ [109, 105, 110]) (h11 : s.toList ≠ [109, 97, 120]) : wordB s = false := by
 unfold wordB wordsL
 refine decide_eq_false fun h => ?_
 simp only [List.mem_cons, List.not_mem_nil, or_false] at h
 rcases h with h | h | h | h | h | h | h | h | h | h | h | h
 ·exact h0 h
 ·exact h1 h
 ·exact h2 h
 ·exact h3 h
 ·exact h4 h
 ·exact h5 h
 ·exact h6 h
 ·exact h7 h
 ·exact h8 h
 ·exact h9 h
 ·exact h10 h
 ·exact h11 h
set_option maxRecDepth 100000 in
set_option maxHeartbeats 2000000 in
theorem isWord_any (s : ByteArray) (w : World) : Calls Tryz.prog 179 #[.string s] w fun e w' => e = .returned (.bool (wordB s)) ∧ w' = w := by
 by_cases h0 : s.toList = [101, 97, 114, 110]
 ·have HE : Hid (wordB s = true) := by unfold Hid wordB; rw [h0]; decide
  have hT : (s.toList == [101, 97, 114, 110]) = true := by rw [h0]; decide
  clear h0
  go_enter Tryz.func179, Tryz.ntmps179
  go_wp2
  go_ret
  exact ⟨tret_bool HE.out.symm, rfl⟩
 have d0 : (s.toList == [101, 97, 114, 110]) = false := by simpa using h0
 by_cases h1 : s.toList = [116, 97, 107, 101]
 ·have HE : Hid (wordB s = true) := by unfold Hid wordB; rw [h1]; decide
  have hT : (s.toList == [116, 97, 107, 101]) = true := by rw [h1]; decide
  clear h1
  go_enter Tryz.func179, Tryz.ntmps179
  go_wp2
  go_ret
  exact ⟨tret_bool HE.out.symm, rfl⟩
 have d1 : (s.toList == [116, 97, 107, 101]) = false := by simpa using h1
 by_cases h2 : s.toList = [116, 97, 120]
 ·have HE : Hid (wordB s = true) := by unfold Hid wordB; rw [h2]; decide
  have hT : (s.toList == [116, 97, 120]) = true := by rw [h2]; decide
  clear h2
  go_enter Tryz.func179, Tryz.ntmps179
  go_wp2
  go_ret
  exact ⟨tret_bool HE.out.symm, rfl⟩
 have d2 : (s.toList == [116, 97, 120]) = false := by simpa using h2
 by_cases h3 : s.toList = [108, 101, 116]
 ·have HE : Hid (wordB s = true) := by unfold Hid wordB; rw [h3]; decide
  have hT : (s.toList == [108, 101, 116]) = true := by rw [h3]; decide
  clear h3
  go_enter Tryz.func179, Tryz.ntmps179
  go_wp2
  go_ret
  exact ⟨tret_bool HE.out.symm, rfl⟩
 have d3 : (s.toList == [108, 101, 116]) = false := by simpa using h3
 by_cases h4 : s.toList = [105, 102]
 ·have HE : Hid (wordB s = true) := by unfold Hid wordB; rw [h4]; decide
  have hT : (s.toList == [105, 102]) = true := by rw [h4]; decide
  clear h4
  go_enter Tryz.func179, Tryz.ntmps179
  go_wp2
  go_ret
  exact ⟨tret_bool HE.out.symm, rfl⟩
 have d4 : (s.toList == [105, 102]) = false := by simpa using h4
 by_cases h5 : s.toList = [116, 104, 101, 110]
 ·have HE : Hid (wordB s = true) := by unfold Hid wordB; rw [h5]; decide
  have hT : (s.toList == [116, 104, 101, 110]) = true := by rw [h5]; decide
  clear h5
  go_enter Tryz.func179, Tryz.ntmps179
  go_wp2
  go_ret
  exact ⟨tret_bool HE.out.symm, rfl⟩
 have d5 : (s.toList == [116, 104, 101, 110]) = false := by simpa using h5
 by_cases h6 : s.toList = [101, 108, 115, 101]
 ·have HE : Hid (wordB s = true) := by unfold Hid wordB; rw [h6]; decide
  have hT : (s.toList == [101, 108, 115, 101]) = true := by rw [h6]; decide
  clear h6
  go_enter Tryz.func179, Tryz.ntmps179
  go_wp2
  go_ret
  exact ⟨tret_bool HE.out.symm, rfl⟩
 have d6 : (s.toList == [101, 108, 115, 101]) = false := by simpa using h6
 by_cases h7 : s.toList = [111, 102]
 ·have HE : Hid (wordB s = true) := by unfold Hid wordB; rw [h7]; decide
  have hT : (s.toList == [111, 102]) = true := by rw [h7]; decide
  clear h7
  go_enter Tryz.func179, Tryz.ntmps179
  go_wp2
  go_ret
  exact ⟨tret_bool HE.out.symm, rfl⟩
 have d7 : (s.toList == [111, 102]) = false := by simpa using h7
 by_cases h8 : s.toList = [121, 101, 97, 114]
 ·have HE : Hid (wordB s = true) := by unfold Hid wordB; rw [h8]; decide
  have hT : (s.toList == [121, 101, 97, 114]) = true := by rw [h8]; decide
  clear h8
  go_enter Tryz.func179, Tryz.ntmps179
  go_wp2
  go_ret
  exact ⟨tret_bool HE.out.symm, rfl⟩
 have d8 : (s.toList == [121, 101, 97, 114]) = false := by simpa using h8
 by_cases h9 : s.toList = [116, 97, 98, 108, 101]
 ·have HE : Hid (wordB s = true) := by unfold Hid wordB; rw [h9]; decide
  have hT : (s.toList == [116, 97, 98, 108, 101]) = true := by rw [h9]; decide
  clear h9
  go_enter Tryz.func179, Tryz.ntmps179
  go_wp2
  go_ret
  exact ⟨tret_bool HE.out.symm, rfl⟩
 have d9 : (s.toList == [116, 97, 98, 108, 101]) = false := by simpa using h9
 by_cases h10 : s.toList = [109, 105, 110]
 ·have HE : Hid (wordB s = true) := by unfold Hid wordB; rw [h10]; decide
  have hT : (s.toList == [109, 105, 110]) = true := by rw [h10]; decide
  clear h10
  go_enter Tryz.func179, Tryz.ntmps179
  go_wp2
  go_ret
  exact ⟨tret_bool HE.out.symm, rfl⟩
 have d10 : (s.toList == [109, 105, 110]) = false := by simpa using h10
 by_cases h11 : s.toList = [109, 97, 120]
 ·have HE : Hid (wordB s = true) := by unfold Hid wordB; rw [h11]; decide
  have hT : (s.toList == [109, 97, 120]) = true := by rw [h11]; decide
  clear h11
  go_enter Tryz.func179, Tryz.ntmps179
  go_wp2
  go_ret
  exact ⟨tret_bool HE.out.symm, rfl⟩
 have d11 : (s.toList == [109, 97, 120]) = false := by simpa using h11
 have HE : Hid (wordB s = false) := wordB_no s h0 h1 h2 h3 h4 h5 h6 h7 h8 h9 h10 h11
 go_enter Tryz.func179, Tryz.ntmps179
 go_wp2
 go_ret
 exact ⟨tret_bool HE.out.symm, rfl⟩
end Go.Proofs.YtkalfdjmklakdaaGreatDoor
namespace Go.Proofs.YtkalfdjmklakdaaGreatDoor
open Go.RowKit
theorem wordB_all {s : ByteArray} (h : ∀ q, q < 12 → s.toList ≠ wordsL[q]!) : wordB s = false :=
 wordB_no s (h 0 (by omega)) (h 1 (by omega)) (h 2 (by omega)) (h 3 (by omega)) (h 4 (by omega)) (h 5 (by omega)) (h 6 (by omega)) (h 7 (by omega)) (h 8 (by omega)) (h 9 (by omega)) (h 10 (by omega)) (h 11 (by omega))
set_option maxRecDepth 100000 in
set_option maxHeartbeats 2000000 in
theorem isWord_ref (s : ByteArray) (w : World) : Calls Tryz.prog 153 #[.string s] w fun e w' => e = .returned (.bool (wordB s)) ∧ Below w.heap.size w w' := by
 have HB := Lib.hid ((Below.refl w.heap.size w).alloc (Nat.le_refl _) (.cells #[.string ⟨#[101, 97, 114, 110]⟩, .string ⟨#[116, 97, 107, 101]⟩, .string ⟨#[116, 97, 120]⟩, .string ⟨#[108, 101, 116]⟩, .string ⟨#[105, 102]⟩, .string ⟨#[116, 104, 101, 110]⟩, .string ⟨#[101, 108, 115, 101]⟩, .string ⟨#[111, 102]⟩, .string ⟨#[121, 101, 97, 114]⟩, .string ⟨#[116, 97, 98, 108, 101]⟩, .string ⟨#[109, 105, 110]⟩, .string ⟨#[109, 97, 120]⟩] 9))
 go_enter Tryz.func153, Tryz.ntmps153
 go_wp2_with fail
 go_loop [4] (fun i => ∃ k : Nat, k ≤ 12 ∧ i = .int .i64 k ∧ ∀ j, j < k → s.toList ≠ wordsL[j]!) (fun i => 12 - (intOf i).toNat)
 case atStart => exact ⟨0, by omega, rfl, fun j hj => absurd hj (by omega)⟩
 case round =>
  obtain ⟨k, hk, rfl, hall⟩ := hrel
  have HA := Lib.hid hall
  clear hall
  by_cases hlt : k < 12
  ·have hkk : k = 0 ∨ k = 1 ∨ k = 2 ∨ k = 3 ∨ k = 4 ∨ k = 5 ∨ k = 6 ∨ k = 7 ∨ k = 8 ∨ k = 9 ∨ k = 10 ∨ k = 11 := by omega
   rcases hkk with rfl | rfl | rfl | rfl | rfl | rfl | rfl | rfl | rfl | rfl | rfl | rfl
   ·have HS : Hid (∀ j, j < 0 + 1 → s.toList ≠ wordsL[0]! → ∀ q, q < 0 + 1 → s.toList ≠ wordsL[q]!) := fun j _ h q hq => by
     rcases (show q < 0 ∨ q = 0 by omega) with e | rfl
     ·exact HA.out q e
     ·exact h
    by_cases h : s.toList = [101, 97, 114, 110]
    ·have HE : Hid (wordB s = true) := by unfold Hid wordB; rw [h]; decide
     have hT : ([101, 97, 114, 110] == s.toList) = true := by rw [h]; decide
     have hT' : (s.toList == [101, 97, 114, 110]) = true := by rw [h]; decide
     clear h HS
     go_wp2_with fail
     go_ret
     exact ⟨tret_bool HE.out.symm, HB.out⟩
    ·have hF : ([101, 97, 114, 110] == s.toList) = false := by simpa using fun e => h e.symm
     have hF' : (s.toList == [101, 97, 114, 110]) = false := by simpa using h
     have HN := Lib.hid (HS.out 0 (by omega) h)
     clear h HS
     go_wp2_with fail
     go_round
     case rel => exact ⟨0 + 1, by omega, by go_num, HN.out⟩
     case measure => simp [intOf]
   ·have HS : Hid (∀ j, j < 1 + 1 → s.toList ≠ wordsL[1]! → ∀ q, q < 1 + 1 → s.toList ≠ wordsL[q]!) := fun j _ h q hq => by
     rcases (show q < 1 ∨ q = 1 by omega) with e | rfl
     ·exact HA.out q e
     ·exact h
    by_cases h : s.toList = [116, 97, 107, 101]
    ·have HE : Hid (wordB s = true) := by unfold Hid wordB; rw [h]; decide
     have hT : ([116, 97, 107, 101] == s.toList) = true := by rw [h]; decide
     have hT' : (s.toList == [116, 97, 107, 101]) = true := by rw [h]; decide
     clear h HS
     go_wp2_with fail
     go_ret
     exact ⟨tret_bool HE.out.symm, HB.out⟩
    ·have hF : ([116, 97, 107, 101] == s.toList) = false := by simpa using fun e => h e.symm
     have hF' : (s.toList == [116, 97, 107, 101]) = false := by simpa using h
     have HN := Lib.hid (HS.out 1 (by omega) h)
     clear h HS
     go_wp2_with fail
     go_round
     case rel => exact ⟨1 + 1, by omega, by go_num, HN.out⟩
     case measure => simp [intOf]
   ·have HS : Hid (∀ j, j < 2 + 1 → s.toList ≠ wordsL[2]! → ∀ q, q < 2 + 1 → s.toList ≠ wordsL[q]!) := fun j _ h q hq => by
     rcases (show q < 2 ∨ q = 2 by omega) with e | rfl
     ·exact HA.out q e
     ·exact h
    by_cases h : s.toList = [116, 97, 120]
    ·have HE : Hid (wordB s = true) := by unfold Hid wordB; rw [h]; decide
     have hT : ([116, 97, 120] == s.toList) = true := by rw [h]; decide
     have hT' : (s.toList == [116, 97, 120]) = true := by rw [h]; decide
     clear h HS
     go_wp2_with fail
     go_ret
     exact ⟨tret_bool HE.out.symm, HB.out⟩
    ·have hF : ([116, 97, 120] == s.toList) = false := by simpa using fun e => h e.symm
     have hF' : (s.toList == [116, 97, 120]) = false := by simpa using h
     have HN := Lib.hid (HS.out 2 (by omega) h)
     clear h HS
     go_wp2_with fail
     go_round
     case rel => exact ⟨2 + 1, by omega, by go_num, HN.out⟩
     case measure => simp [intOf]
   ·have HS : Hid (∀ j, j < 3 + 1 → s.toList ≠ wordsL[3]! → ∀ q, q < 3 + 1 → s.toList ≠ wordsL[q]!) := fun j _ h q hq => by
     rcases (show q < 3 ∨ q = 3 by omega) with e | rfl
     ·exact HA.out q e
     ·exact h
    by_cases h : s.toList = [108, 101, 116]
    ·have HE : Hid (wordB s = true) := by unfold Hid wordB; rw [h]; decide
     have hT : ([108, 101, 116] == s.toList) = true := by rw [h]; decide
     have hT' : (s.toList == [108, 101, 116]) = true := by rw [h]; decide
     clear h HS
     go_wp2_with fail
     go_ret
     exact ⟨tret_bool HE.out.symm, HB.out⟩
    ·have hF : ([108, 101, 116] == s.toList) = false := by simpa using fun e => h e.symm
     have hF' : (s.toList == [108, 101, 116]) = false := by simpa using h
     have HN := Lib.hid (HS.out 3 (by omega) h)
     clear h HS
     go_wp2_with fail
     go_round
     case rel => exact ⟨3 + 1, by omega, by go_num, HN.out⟩
     case measure => simp [intOf]
   ·have HS : Hid (∀ j, j < 4 + 1 → s.toList ≠ wordsL[4]! → ∀ q, q < 4 + 1 → s.toList ≠ wordsL[q]!) := fun j _ h q hq => by
     rcases (show q < 4 ∨ q = 4 by omega) with e | rfl
     ·exact HA.out q e
     ·exact h
    by_cases h : s.toList = [105, 102]
    ·have HE : Hid (wordB s = true) := by unfold Hid wordB; rw [h]; decide
     have hT : ([105, 102] == s.toList) = true := by rw [h]; decide
     have hT' : (s.toList == [105, 102]) = true := by rw [h]; decide
     clear h HS
     go_wp2_with fail
     go_ret
     exact ⟨tret_bool HE.out.symm, HB.out⟩
    ·have hF : ([105, 102] == s.toList) = false := by simpa using fun e => h e.symm
     have hF' : (s.toList == [105, 102]) = false := by simpa using h
     have HN := Lib.hid (HS.out 4 (by omega) h)
     clear h HS
     go_wp2_with fail
     go_round
     case rel => exact ⟨4 + 1, by omega, by go_num, HN.out⟩
     case measure => simp [intOf]
   ·have HS : Hid (∀ j, j < 5 + 1 → s.toList ≠ wordsL[5]! → ∀ q, q < 5 + 1 → s.toList ≠ wordsL[q]!) := fun j _ h q hq => by
     rcases (show q < 5 ∨ q = 5 by omega) with e | rfl
     ·exact HA.out q e
     ·exact h
    by_cases h : s.toList = [116, 104, 101, 110]
    ·have HE : Hid (wordB s = true) := by unfold Hid wordB; rw [h]; decide
     have hT : ([116, 104, 101, 110] == s.toList) = true := by rw [h]; decide
     have hT' : (s.toList == [116, 104, 101, 110]) = true := by rw [h]; decide
     clear h HS
     go_wp2_with fail
     go_ret
     exact ⟨tret_bool HE.out.symm, HB.out⟩
    ·have hF : ([116, 104, 101, 110] == s.toList) = false := by simpa using fun e => h e.symm
     have hF' : (s.toList == [116, 104, 101, 110]) = false := by simpa using h
     have HN := Lib.hid (HS.out 5 (by omega) h)
     clear h HS
     go_wp2_with fail
     go_round
     case rel => exact ⟨5 + 1, by omega, by go_num, HN.out⟩
     case measure => simp [intOf]
   ·have HS : Hid (∀ j, j < 6 + 1 → s.toList ≠ wordsL[6]! → ∀ q, q < 6 + 1 → s.toList ≠ wordsL[q]!) := fun j _ h q hq => by
     rcases (show q < 6 ∨ q = 6 by omega) with e | rfl
     ·exact HA.out q e
     ·exact h
    by_cases h : s.toList = [101, 108, 115, 101]
    ·have HE : Hid (wordB s = true) := by unfold Hid wordB; rw [h]; decide
     have hT : ([101, 108, 115, 101] == s.toList) = true := by rw [h]; decide
     have hT' : (s.toList == [101, 108, 115, 101]) = true := by rw [h]; decide
     clear h HS
     go_wp2_with fail
     go_ret
     exact ⟨tret_bool HE.out.symm, HB.out⟩
    ·have hF : ([101, 108, 115, 101] == s.toList) = false := by simpa using fun e => h e.symm
     have hF' : (s.toList == [101, 108, 115, 101]) = false := by simpa using h
     have HN := Lib.hid (HS.out 6 (by omega) h)
     clear h HS
     go_wp2_with fail
     go_round
     case rel => exact ⟨6 + 1, by omega, by go_num, HN.out⟩
     case measure => simp [intOf]
   ·have HS : Hid (∀ j, j < 7 + 1 → s.toList ≠ wordsL[7]! → ∀ q, q < 7 + 1 → s.toList ≠ wordsL[q]!) := fun j _ h q hq => by
     rcases (show q < 7 ∨ q = 7 by omega) with e | rfl
     ·exact HA.out q e
     ·exact h
    by_cases h : s.toList = [111, 102]
    ·have HE : Hid (wordB s = true) := by unfold Hid wordB; rw [h]; decide
     have hT : ([111, 102] == s.toList) = true := by rw [h]; decide
     have hT' : (s.toList == [111, 102]) = true := by rw [h]; decide
     clear h HS
     go_wp2_with fail
     go_ret
     exact ⟨tret_bool HE.out.symm, HB.out⟩
    ·have hF : ([111, 102] == s.toList) = false := by simpa using fun e => h e.symm
     have hF' : (s.toList == [111, 102]) = false := by simpa using h
     have HN := Lib.hid (HS.out 7 (by omega) h)
     clear h HS
     go_wp2_with fail
     go_round
     case rel => exact ⟨7 + 1, by omega, by go_num, HN.out⟩
     case measure => simp [intOf]
   ·have HS : Hid (∀ j, j < 8 + 1 → s.toList ≠ wordsL[8]! → ∀ q, q < 8 + 1 → s.toList ≠ wordsL[q]!) := fun j _ h q hq => by
     rcases (show q < 8 ∨ q = 8 by omega) with e | rfl
     ·exact HA.out q e
     ·exact h
    by_cases h : s.toList = [121, 101, 97, 114]
    ·have HE : Hid (wordB s = true) := by unfold Hid wordB; rw [h]; decide
     have hT : ([121, 101, 97, 114] == s.toList) = true := by rw [h]; decide
     have hT' : (s.toList == [121, 101, 97, 114]) = true := by rw [h]; decide
     clear h HS
     go_wp2_with fail
     go_ret
     exact ⟨tret_bool HE.out.symm, HB.out⟩
    ·have hF : ([121, 101, 97, 114] == s.toList) = false := by simpa using fun e => h e.symm
     have hF' : (s.toList == [121, 101, 97, 114]) = false := by simpa using h
     have HN := Lib.hid (HS.out 8 (by omega) h)
     clear h HS
     go_wp2_with fail
     go_round
     case rel => exact ⟨8 + 1, by omega, by go_num, HN.out⟩
     case measure => simp [intOf]
   ·have HS : Hid (∀ j, j < 9 + 1 → s.toList ≠ wordsL[9]! → ∀ q, q < 9 + 1 → s.toList ≠ wordsL[q]!) := fun j _ h q hq => by
     rcases (show q < 9 ∨ q = 9 by omega) with e | rfl
     ·exact HA.out q e
     ·exact h
    by_cases h : s.toList = [116, 97, 98, 108, 101]
    ·have HE : Hid (wordB s = true) := by unfold Hid wordB; rw [h]; decide
     have hT : ([116, 97, 98, 108, 101] == s.toList) = true := by rw [h]; decide
     have hT' : (s.toList == [116, 97, 98, 108, 101]) = true := by rw [h]; decide
     clear h HS
     go_wp2_with fail
     go_ret
     exact ⟨tret_bool HE.out.symm, HB.out⟩
    ·have hF : ([116, 97, 98, 108, 101] == s.toList) = false := by simpa using fun e => h e.symm
     have hF' : (s.toList == [116, 97, 98, 108, 101]) = false := by simpa using h
     have HN := Lib.hid (HS.out 9 (by omega) h)
     clear h HS
     go_wp2_with fail
     go_round
     case rel => exact ⟨9 + 1, by omega, by go_num, HN.out⟩
     case measure => simp [intOf]
   ·have HS : Hid (∀ j, j < 10 + 1 → s.toList ≠ wordsL[10]! → ∀ q, q < 10 + 1 → s.toList ≠ wordsL[q]!) := fun j _ h q hq => by
     rcases (show q < 10 ∨ q = 10 by omega) with e | rfl
     ·exact HA.out q e
     ·exact h
    by_cases h : s.toList = [109, 105, 110]
    ·have HE : Hid (wordB s = true) := by unfold Hid wordB; rw [h]; decide
     have hT : ([109, 105, 110] == s.toList) = true := by rw [h]; decide
     have hT' : (s.toList == [109, 105, 110]) = true := by rw [h]; decide
     clear h HS
     go_wp2_with fail
     go_ret
     exact ⟨tret_bool HE.out.symm, HB.out⟩
    ·have hF : ([109, 105, 110] == s.toList) = false := by simpa using fun e => h e.symm
     have hF' : (s.toList == [109, 105, 110]) = false := by simpa using h
     have HN := Lib.hid (HS.out 10 (by omega) h)
     clear h HS
     go_wp2_with fail
     go_round
     case rel => exact ⟨10 + 1, by omega, by go_num, HN.out⟩
     case measure => simp [intOf]
   ·have HS : Hid (∀ j, j < 11 + 1 → s.toList ≠ wordsL[11]! → ∀ q, q < 11 + 1 → s.toList ≠ wordsL[q]!) := fun j _ h q hq => by
     rcases (show q < 11 ∨ q = 11 by omega) with e | rfl
     ·exact HA.out q e
     ·exact h
    by_cases h : s.toList = [109, 97, 120]
    ·have HE : Hid (wordB s = true) := by unfold Hid wordB; rw [h]; decide
     have hT : ([109, 97, 120] == s.toList) = true := by rw [h]; decide
     have hT' : (s.toList == [109, 97, 120]) = true := by rw [h]; decide
     clear h HS
     go_wp2_with fail
     go_ret
     exact ⟨tret_bool HE.out.symm, HB.out⟩
    ·have hF : ([109, 97, 120] == s.toList) = false := by simpa using fun e => h e.symm
     have hF' : (s.toList == [109, 97, 120]) = false := by simpa using h
     have HN := Lib.hid (HS.out 11 (by omega) h)
     clear h HS
     go_wp2_with fail
     go_round
     case rel => exact ⟨11 + 1, by omega, by go_num, HN.out⟩
     case measure => simp [intOf]
  ·obtain rfl : k = 12 := by omega
   have HE := Lib.hid (wordB_all HA.out)
   go_wp2_with fail
   go_ret
   exact ⟨tret_bool HE.out.symm, HB.out⟩
def letAt (s : ByteArray) (j : Nat) : Bool := letB (bt s j)
def digAt (s : ByteArray) (j : Nat) : Bool := digB (bt s j)
theorem isLetter_refN (s : ByteArray) (j : Nat) (w : World) : Calls Tryz.prog 105 #[.string s, .int .i64 (j : Int)] w fun e w' => e = .returned (.bool (letAt s j)) ∧ w' = w := by
 by_cases h : j < s.size
 ·have hb := bt_in h
  have h' : (j : Int) < (s.size : Int) := by omega
  by_cases h1 : 97 ≤ (s[j].toNat : Int)
  ·by_cases h2 : (s[j].toNat : Int) ≤ 122
   ·have H : Hid (letAt s j = true) := by unfold Hid letAt letB; rw [hb]; exact decide_eq_true ⟨h1, h2⟩
    clear hb
    go_enter Tryz.func105, Tryz.ntmps105
    go_wp2
    go_ret
    exact ⟨tret_bool (by rw [H.out]; try (simp <;> omega)), rfl⟩
   ·have H : Hid (letAt s j = false) := by unfold Hid letAt letB; rw [hb]; exact decide_eq_false (by omega)
    clear hb
    go_enter Tryz.func105, Tryz.ntmps105
    go_wp2
    go_ret
    exact ⟨tret_bool (by rw [H.out]; try (simp <;> omega)), rfl⟩
  ·have H : Hid (letAt s j = false) := by unfold Hid letAt letB; rw [hb]; exact decide_eq_false (by omega)
   have hd : decide (97 ≤ (s[j].toNat : Int)) = false := decide_eq_false h1
   clear hb
   go_enter Tryz.func105, Tryz.ntmps105
   go_wp2
   go_ret
   exact ⟨tret_bool (by rw [H.out]; try (simp <;> omega)), rfl⟩
 ·have H : Hid (letAt s j = false) := by unfold Hid letAt letB; rw [bt_out h]; exact decide_eq_false (by omega)
  have hd : decide ((j : Int) < (s.size : Int)) = false := decide_eq_false (by omega)
  go_enter Tryz.func105, Tryz.ntmps105
  go_wp2
  go_ret
  exact ⟨tret_bool (by rw [H.out]; try (simp <;> omega)), rfl⟩
theorem isLetter_ref (s : ByteArray) (j : Int) (w : World) (h : 0 ≤ j) : Calls Tryz.prog 105 #[.string s, .int .i64 j] w fun e w' => e = .returned (.bool (letAt s j.toNat)) ∧ w' = w := by
 obtain ⟨m, rfl⟩ := Int.eq_ofNat_of_zero_le h
 exact isLetter_refN s m w
theorem isDigit_refN (s : ByteArray) (j : Nat) (w : World) : Calls Tryz.prog 154 #[.string s, .int .i64 (j : Int)] w fun e w' => e = .returned (.bool (digAt s j)) ∧ w' = w := by
 by_cases h : j < s.size
 ·have hb := bt_in h
  have h' : (j : Int) < (s.size : Int) := by omega
  by_cases h1 : 48 ≤ (s[j].toNat : Int)
  ·by_cases h2 : (s[j].toNat : Int) ≤ 57
   ·have H : Hid (digAt s j = true) := by unfold Hid digAt digB; rw [hb]; exact decide_eq_true ⟨h1, h2⟩
    clear hb
    go_enter Tryz.func154, Tryz.ntmps154
    go_wp2
    go_ret
    exact ⟨tret_bool (by rw [H.out]; try (simp <;> omega)), rfl⟩
   ·have H : Hid (digAt s j = false) := by unfold Hid digAt digB; rw [hb]; exact decide_eq_false (by omega)
    clear hb
    go_enter Tryz.func154, Tryz.ntmps154
    go_wp2
    go_ret
    exact ⟨tret_bool (by rw [H.out]; try (simp <;> omega)), rfl⟩
  ·have H : Hid (digAt s j = false) := by unfold Hid digAt digB; rw [hb]; exact decide_eq_false (by omega)
   have hd : decide (48 ≤ (s[j].toNat : Int)) = false := decide_eq_false h1
   clear hb
   go_enter Tryz.func154, Tryz.ntmps154
   go_wp2
   go_ret
   exact ⟨tret_bool (by rw [H.out]; try (simp <;> omega)), rfl⟩
 ·have H : Hid (digAt s j = false) := by unfold Hid digAt digB; rw [bt_out h]; exact decide_eq_false (by omega)
  have hd : decide ((j : Int) < (s.size : Int)) = false := decide_eq_false (by omega)
  go_enter Tryz.func154, Tryz.ntmps154
  go_wp2
  go_ret
  exact ⟨tret_bool (by rw [H.out]; try (simp <;> omega)), rfl⟩
theorem isDigit_ref (s : ByteArray) (j : Int) (w : World) (h : 0 ≤ j) : Calls Tryz.prog 154 #[.string s, .int .i64 j] w fun e w' => e = .returned (.bool (digAt s j.toNat)) ∧ w' = w := by
 obtain ⟨m, rfl⟩ := Int.eq_ofNat_of_zero_le h
 exact isDigit_refN s m w
end Go.Proofs.YtkalfdjmklakdaaGreatDoor
namespace Go.Proofs.YtkalfdjmklakdaaGreatDoor
open Go.RowKit
def NameP (s : ByteArray) : Prop := 1 ≤ s.size ∧ s.size ≤ 8 ∧ (∀ j, j < s.size → letB (bt s j) = true) ∧ wordB s = false
theorem span_all {P : Int → Bool} {s : ByteArray} {n : Nat} (h : SpanIs P s n) : n = s.size ↔ ∀ j, j < s.size → P (bt s j) = true := by
 constructor
 ·rintro rfl
  exact h.2.1
 ·intro h'
  by_cases e : n < s.size
  ·have := h.2.2 e
   rw [h' n e] at this
   cases this
  ·have := h.1; omega
def Says (P : Prop) (w : World) (e : Ending) (w' : World) : Prop := ∃ b : Bool, e = .returned (.bool b) ∧ (b = true ↔ P) ∧ Below w.heap.size w w'
theorem Says.no {P : Prop} {w w' : World} (h : ¬ P) (hb : Below w.heap.size w w') : Says P w (.returned (.bool false)) w' := ⟨false, rfl, ⟨fun h => (by cases h), fun h' => absurd h' h⟩, hb⟩
theorem Says.yes {P : Prop} {w w' : World} (h : P) (hb : Below w.heap.size w w') : Says P w (.returned (.bool true)) w' := ⟨true, rfl, ⟨fun _ => h, fun _ => rfl⟩, hb⟩
set_option maxRecDepth 100000 in
set_option maxHeartbeats 1000000 in
theorem IsName_any (s : ByteArray) (w : World) : Calls Tryz.prog 140 #[.string s] w fun e w' => Says (NameP s) w e w' := by
 by_cases h0 : s.size = 0
 ·have HE : Hid (¬ NameP s) := fun h => by have := h.1; omega
  have hs : s = ByteArray.empty := ByteArray.size_eq_zero_iff.1 h0
  subst hs
  go_enter Tryz.func140, Tryz.ntmps140
  go_wp2_with fail
  go_ret
  exact Says.no HE.out (Below.refl _ _)
 ·have hie : s.toList.isEmpty = false := by
   cases h : s.toList with
   | nil => exact absurd ((toList_nil_iff_emptyBytes s).1 h) (fun e => h0 (by rw [e]; rfl))
   | cons x l => rfl
  by_cases h8 : s.size ≤ 8
  ·have h8' : (s.size : Int) ≤ 8 := by omega
   go_enter Tryz.func140, Tryz.ntmps140
   go_wp2_with fail
   refine (letters_any s w).mono ?_
   rintro e w1 ⟨n, rfl, hsp, hb1⟩
   have HB1 := Lib.hid hb1
   have HAL := Lib.hid (span_all hsp)
   clear hb1 hsp
   by_cases hall : n = s.size
   ·subst hall
    have HALL := Lib.hid (HAL.out.1 rfl)
    have HW := Lib.hid (fun w => isWord_any s w)
    have HNP : Hid (NameP s ↔ wordB s = false) := ⟨fun h => h.2.2.2, fun h => ⟨by omega, h8, HALL.out, h⟩⟩
    clear HAL HALL
    cases hw : wordB s
    ·rw [hw] at HW
     have HY := Lib.hid (HNP.out.2 hw)
     clear hw HNP
     go_wp2_with fail
     refine (HW.out _).mono ?_
     rintro e w2 ⟨rfl, h2⟩
     subst w2
     go_wp2_with fail
     go_ret
     exact Says.yes HY.out HB1.out
    ·rw [hw] at HW
     have HY : Hid (¬ NameP s) := fun h => by rw [HNP.out.1 h] at hw; cases hw
     clear hw HNP
     go_wp2_with fail
     refine (HW.out _).mono ?_
     rintro e w2 ⟨rfl, h2⟩
     subst w2
     go_wp2_with fail
     go_ret
     exact Says.no HY.out HB1.out
   ·have hB : ((n : Int) == (s.size : Int)) = false := by simp; omega
    have hB' : decide ((n : Int) = (s.size : Int)) = false := decide_eq_false (by omega)
    have HY : Hid (¬ NameP s) := fun h => hall (HAL.out.2 h.2.2.1)
    clear HAL
    go_wp2_with fail
    go_ret
    exact Says.no HY.out HB1.out
  ·have h8' : decide ((s.size : Int) ≤ 8) = false := decide_eq_false (by omega)
   have HY : Hid (¬ NameP s) := fun h => h8 h.2.1
   go_enter Tryz.func140, Tryz.ntmps140
   go_wp2_with fail
   go_ret
   exact Says.no HY.out (Below.refl _ _)
set_option maxRecDepth 100000 in
set_option maxHeartbeats 1000000 in
theorem isName_ref (s : ByteArray) (w : World) (hs : s.size ≤ 9223372036854775807) : Calls Tryz.prog 101 #[.string s] w fun e w' => Says (NameP s) w e w' := by
 go_enter Tryz.func101, Tryz.ntmps101
 go_wp2_with fail
 go_loop [3] (fun i => ∃ k : Nat, k ≤ s.size ∧ i = .int .i64 k ∧ ∀ j, j < k → letB (bt s j) = true) (fun i => s.size - (intOf i).toNat)
 case atStart => exact ⟨0, Nat.zero_le _, rfl, fun j hj => absurd hj (by omega)⟩
 case round =>
  obtain ⟨k, hk, rfl, hall⟩ := hrel
  have HA := Lib.hid hall
  clear hall
  by_cases hlt : k < s.size
  ·have hlt' : (k : Int) < (s.size : Int) := by omega
   have HL := Lib.hid (fun w => isLetter_refN s k w)
   cases hl : letAt s k
   ·rw [hl] at HL
    have HY : Hid (¬ NameP s) := fun h => by have := h.2.2.1 k hlt; unfold letAt at hl; rw [this] at hl; cases hl
    clear hl
    go_wp2_with fail
    refine (HL.out _).mono ?_
    rintro e w2 ⟨rfl, h2⟩
    subst w2
    go_wp2_with fail
    go_ret
    exact Says.no HY.out (Below.refl _ _)
   ·rw [hl] at HL
    have HK : Hid (letB (bt s k) = true) := hl
    clear hl
    go_wp2_with fail
    refine (HL.out _).mono ?_
    rintro e w2 ⟨rfl, h2⟩
    subst w2
    go_wp2_with fail
    go_round
    case rel => exact ⟨k + 1, by omega, by go_num, fun j hj => by rcases (show j < k ∨ j = k by omega) with e | rfl; exact HA.out j e; exact HK.out⟩
    case measure => simp [intOf]; omega
  ·obtain rfl : k = s.size := by omega
   have hlB : decide ((s.size : Int) < (s.size : Int)) = false := decide_eq_false (by omega)
   by_cases h1 : 1 ≤ s.size
   ·have h1' : (1 : Int) ≤ (s.size : Int) := by omega
    by_cases h8 : s.size ≤ 8
    ·have h8' : (s.size : Int) ≤ 8 := by omega
     have HNP : Hid (NameP s ↔ wordB s = false) := ⟨fun h => h.2.2.2, fun h => ⟨h1, h8, HA.out, h⟩⟩
     have HW := Lib.hid (fun w => isWord_ref s w)
     cases hw : wordB s
     ·rw [hw] at HW
      have HY := Lib.hid (HNP.out.2 hw)
      clear hw HNP
      go_wp2_with fail
      refine (HW.out _).mono ?_
      rintro e w2 ⟨rfl, h2⟩
      have HB2 := Lib.hid h2
      clear h2
      go_wp2_with fail
      go_ret
      exact Says.yes HY.out HB2.out
     ·rw [hw] at HW
      have HY : Hid (¬ NameP s) := fun h => by rw [HNP.out.1 h] at hw; cases hw
      clear hw HNP
      go_wp2_with fail
      refine (HW.out _).mono ?_
      rintro e w2 ⟨rfl, h2⟩
      have HB2 := Lib.hid h2
      clear h2
      go_wp2_with fail
      go_ret
      exact Says.no HY.out HB2.out
    ·have h8' : decide ((s.size : Int) ≤ 8) = false := decide_eq_false (by omega)
     have HY : Hid (¬ NameP s) := fun h => h8 h.2.1
     go_wp2_with fail
     go_ret
     exact Says.no HY.out (Below.refl _ _)
   ·have h1' : decide ((1 : Int) ≤ (s.size : Int)) = false := decide_eq_false (by omega)
    have HY : Hid (¬ NameP s) := fun h => h1 h.1
    go_wp2_with fail
    go_ret
    exact Says.no HY.out (Below.refl _ _)
end Go.Proofs.YtkalfdjmklakdaaGreatDoor
namespace Go.Proofs.YtkalfdjmklakdaaGreatDoor
open Go.RowKit
structure Bk where
 frm : Int
 rate : Int
def bnth (l : List Bk) (j : Nat) : Bk := l.getD j ⟨0, 0⟩
def BAt (w : World) (b off : Nat) (l : List Bk) : Prop := b < w.heap.size ∧ ∀ j, j < l.length → w.cell? ⟨b, off + j * 2, none⟩ = some (.int .i64 (bnth l j).frm) ∧ w.cell? ⟨b, off + j * 2 + 1, none⟩ = some (.int .i64 (bnth l j).rate)
theorem BAt.below {B : Nat} {w w' : World} {b off : Nat} {l : List Bk} (h : BAt w b off l) (hb : Below B w w') (hB : b < B) : BAt w' b off l :=
 ⟨Nat.lt_of_lt_of_le h.1 hb.size, fun j hj => ⟨(hb.cell (p := ⟨b, off + j * 2, none⟩) hB).trans (h.2 j hj).1, (hb.cell (p := ⟨b, off + j * 2 + 1, none⟩) hB).trans (h.2 j hj).2⟩⟩
def CameB (w : World) (a : Option Addr) (l : List Bk) : Prop := l.length = 0 ∨ ∃ b off, a = some ⟨b, off, none⟩ ∧ BAt w b off l
theorem CameB.below {w w' : World} {a : Option Addr} {l : List Bk} (h : CameB w a l) (hb : Below w.heap.size w w') : CameB w' a l := by
 rcases h with h | ⟨b, off, rfl, h⟩
 ·exact .inl h
 ·exact .inr ⟨b, off, rfl, h.below hb h.1⟩
theorem blt_of_cell {W : World} {p : Addr} {v : Value} (h : W.cell? p = some v) : p.block < W.heap.size := by
 by_cases hb : p.block < W.heap.size
 ·exact hb
 ·have : W.heap[p.block]? = none := Array.getElem?_eq_none (by omega)
  simp [World.cell?, this] at h
theorem kcells_bk : Tryz.prog.cellsOf 189 = 2 := by kernel_rfl
theorem kcells_int : Tryz.prog.cellsOf 3 = 1 := by kernel_rfl
set_option maxRecDepth 100000 in
theorem open_bks {H : Type} {enc : TypeId × Value → H} {W : World} {fuel : Nat} {v : Value} {x : DataW H × List MemPlace}
 (h : DataW.trod enc Tryz.prog W 0 (fun _ => true) true fuel 133 [v] = some x) :
 ∃ (a : Option Addr) (len cap : Nat) (l : List Bk), v = .slice a len cap ∧ CameB W a l ∧ l.length = len ∧ len ≤ maxLen := by
 rcases Deep.open_slice Tryz.underlying133 h with ⟨hcs, _⟩ | ⟨a', len, cap, m, n, D, Pl, hcs, hb, hl, hm, hmm, _, hx⟩
 ·simp at hcs
  exact ⟨none, 0, 0, [], hcs, .inl rfl, rfl, Nat.zero_le _⟩
 simp at hcs
 subst hcs
 have hmc : m = cap := by rw [hmm]; simp
 subst hmc
 have each : ∀ i, i < m → ∃ r : Bk, W.cell? (a'.add (i * 2)) = some (.int .i64 r.frm) ∧ W.cell? (a'.add (i * 2 + 1)) = some (.int .i64 r.rate) := by
  intro i hi
  obtain ⟨cs', h1, h2⟩ := hx i hi
  rw [kcells_bk] at h1
  obtain ⟨_, hlen, hcell⟩ := World.cells?_some h1
  obtain ⟨xs, k, hk, hxy, _, hxl, hf⟩ := DataW.trod_struct Tryz.underlying189 h2
  match xs, hxl, cs', hlen with
  | [y0, y1], _, [v0, v1], _ =>
    have g0 := hf 0 _ rfl
    have g1 := hf 1 _ rfl
    simp [kcells_int] at g0 g1
    obtain ⟨n0, q0, _, w0⟩ := DataW.trod_int Tryz.underlying3 g0
    obtain ⟨n1, q1, _, w1⟩ := DataW.trod_int Tryz.underlying3 g1
    simp at q0 q1
    subst q0 q1
    have e0 := hcell 0 (by omega)
    have e1 := hcell 1 (by omega)
    rw [Deep.add_add] at e0 e1
    exact ⟨⟨n0, n1⟩, by simpa using e0, by simpa using e1⟩
 haveI : Inhabited Bk := ⟨⟨0, 0⟩⟩
 obtain ⟨q, hq⟩ := Deep.choose_lt each
 have hnth : ∀ j, j < len → bnth ((List.range len).map q) j = q j := by
  intro j hj
  simp [bnth, List.getD_eq_getElem?_getD, hj]
 refine ⟨some a', len, m, (List.range len).map q, rfl, ?_, by simp, by omega⟩
 by_cases h0 : len = 0
 ·exact .inl (by simp [h0])
 ·obtain ⟨b, off, spot⟩ := a'
  have hc := (hq 0 (by omega)).1
  have hspot : spot = none := by simpa [Addr.add] using World.cell?_spot hc
  subst hspot
  refine .inr ⟨b, off, rfl, blt_of_cell hc, fun j hj => ?_⟩
  have hj' : j < len := by simpa using hj
  have := hq j (by omega)
  simp only [Addr.add_lit] at this
  rw [hnth j hj']
  simpa [Nat.add_assoc] using this
def BkIs (w : World) (b o : Nat) (r : Bk) : Prop := w.cell? ⟨b, o, none⟩ = some (.int .i64 r.frm) ∧ w.cell? ⟨b, o + 1, none⟩ = some (.int .i64 r.rate)
theorem BkIs.below {B : Nat} {w w' : World} {b o : Nat} {r : Bk} (h : BkIs w b o r) (hb : Below B w w') (hB : b < B) : BkIs w' b o r :=
 ⟨(hb.cell (p := ⟨b, o, none⟩) hB).trans h.1, (hb.cell (p := ⟨b, o + 1, none⟩) hB).trans h.2⟩
theorem CameB.open {w : World} {a : Option Addr} {l : List Bk} (h : CameB w a l) {n : Nat} (hn : l.length = n) (h0 : 0 < n) : ∃ b off, a = some ⟨b, off, none⟩ ∧ ∀ w', Below w.heap.size w w' → ∀ k, k < n → BkIs w' b (off + k * 2) (bnth l k) := by
 rcases h with h | ⟨b, off, rfl, h⟩
 ·omega
 ·exact ⟨b, off, rfl, fun w' hb k hk => BkIs.below (h.2 k (by omega)) hb h.1⟩
def TIs (w : World) (b : Nat) (s : ByteArray) (a : Option Addr) (n cap : Nat) : Prop := b < w.heap.size ∧ w.cell? ⟨b, 0, none⟩ = some (.string s) ∧ w.cell? ⟨b, 1, none⟩ = some (.slice a n cap)
theorem TIs.made (w : World) (s : ByteArray) (a : Option Addr) (n cap : Nat) (T : TypeId) : TIs (w.alloc (.cells #[.string s, .slice a n cap] T)) w.heap.size s a n cap := by
 refine ⟨?_, ?_, ?_⟩ <;> simp
theorem TIs.below {B : Nat} {w w' : World} {b : Nat} {s : ByteArray} {a : Option Addr} {n cap : Nat} (h : TIs w b s a n cap) (hb : Below B w w') (hB : b < B) : TIs w' b s a n cap :=
 ⟨Nat.lt_of_lt_of_le h.1 hb.size, (hb.cell (p := ⟨b, 0, none⟩) hB).trans h.2.1, (hb.cell (p := ⟨b, 1, none⟩) hB).trans h.2.2⟩
theorem kbelow_box (w : World) (o : Obj) : Below w.heap.size w (w.alloc o) := (Below.refl w.heap.size w).alloc (Nat.le_refl _) o
end Go.Proofs.YtkalfdjmklakdaaGreatDoor
namespace Go.Proofs.YtkalfdjmklakdaaGreatDoor
open Go.RowKit
theorem kret_bool {a b : Bool} (h : a = b) : Ending.returned (.bool a) = .returned (.bool b) := by rw [h]
theorem kret_int {k : IntKind} {a b : Int} (h : a = b) : Ending.returned (.int k a) = .returned (.int k b) := by rw [h]
theorem kbelow_dN {B : Nat} {a w : World} (h : Below B a w) (k : Nat) : Below B a (w.drewN k) := h.trans ⟨rfl, rfl, rfl, Nat.le_refl _, fun _ _ => rfl⟩
def bkB (r : Bk) : Bool := decide (0 ≤ r.frm ∧ r.frm ≤ 1000000000000 ∧ 0 ≤ r.rate ∧ r.rate ≤ 10000)
theorem bkB_iff {r : Bk} : bkB r = true ↔ 0 ≤ r.frm ∧ r.frm ≤ 1000000000000 ∧ 0 ≤ r.rate ∧ r.rate ≤ 10000 := by unfold bkB; exact decide_eq_true_iff
set_option maxHeartbeats 1000000 in
theorem isBracket_any (f r : Int) (w : World) :
 Calls Tryz.prog 263 #[.agg #[.int .i64 f, .int .i64 r]] w fun e w' => e = .returned (.bool (bkB ⟨f, r⟩)) ∧ w' = w.alloc (.cells #[.int .i64 f, .int .i64 r] 189) := by
 by_cases h0 : 0 ≤ f
 ·by_cases h1 : f ≤ 1000000000000
  ·have HM : Hid (monB f = true) := decide_eq_true (by omega)
   by_cases h2 : 0 ≤ r
   ·by_cases h3 : r ≤ 10000
    ·have HR : Hid (bkB ⟨f, r⟩ = true) := decide_eq_true ⟨h0, h1, h2, h3⟩
     go_enter Tryz.func263, Tryz.ntmps263
     go_wp2_with (go_at_call 212; refine (isMoney_any _ _).mono ?_; rintro e w' ⟨rfl, h'⟩; subst w'; try rw [HM.out])
     go_ret
     exact ⟨kret_bool (by rw [HR.out]; try simp), rfl⟩
    ·have HR : Hid (bkB ⟨f, r⟩ = false) := decide_eq_false (fun h => h3 h.2.2.2)
     have hd : decide (r ≤ 10000) = false := decide_eq_false h3
     go_enter Tryz.func263, Tryz.ntmps263
     go_wp2_with (go_at_call 212; refine (isMoney_any _ _).mono ?_; rintro e w' ⟨rfl, h'⟩; subst w'; try rw [HM.out])
     go_ret
     exact ⟨kret_bool (by rw [HR.out]; try simp), rfl⟩
   ·have HR : Hid (bkB ⟨f, r⟩ = false) := decide_eq_false (fun h => h2 h.2.2.1)
    have hd : decide (0 ≤ r) = false := decide_eq_false h2
    go_enter Tryz.func263, Tryz.ntmps263
    go_wp2_with (go_at_call 212; refine (isMoney_any _ _).mono ?_; rintro e w' ⟨rfl, h'⟩; subst w'; try rw [HM.out])
    go_ret
    exact ⟨kret_bool (by rw [HR.out]; try simp), rfl⟩
  ·have HM : Hid (monB f = false) := decide_eq_false (by omega)
   have HR : Hid (bkB ⟨f, r⟩ = false) := decide_eq_false (fun h => h1 h.2.1)
   go_enter Tryz.func263, Tryz.ntmps263
   go_wp2_with (go_at_call 212; refine (isMoney_any _ _).mono ?_; rintro e w' ⟨rfl, h'⟩; subst w'; try rw [HM.out])
   go_ret
   exact ⟨kret_bool (by rw [HR.out]; try simp), rfl⟩
 ·have HM : Hid (True) := trivial
  have HR : Hid (bkB ⟨f, r⟩ = false) := decide_eq_false (fun h => h0 h.1)
  have hd : decide (0 ≤ f) = false := decide_eq_false h0
  go_enter Tryz.func263, Tryz.ntmps263
  go_wp2_with (go_at_call 212; refine (isMoney_any _ _).mono ?_; rintro e w' ⟨rfl, h'⟩; subst w'; try rw [HM.out])
  go_ret
  exact ⟨kret_bool (by rw [HR.out]; try simp), rfl⟩
set_option maxHeartbeats 1000000 in
theorem notBk_any (f r : Int) (w : World) :
 Calls Tryz.prog 262 #[.agg #[.int .i64 f, .int .i64 r]] w fun e w' => e = .returned (.bool (!bkB ⟨f, r⟩)) ∧ w' = (w.alloc (.cells #[.int .i64 f, .int .i64 r] 189)).alloc (.cells #[.int .i64 f, .int .i64 r] 189) := by
 go_enter Tryz.func262, Tryz.ntmps262
 go_wp2_with fail
 refine (isBracket_any _ _ _).mono ?_
 rintro e w' ⟨rfl, h'⟩
 subst w'
 go_wp2_with fail
 go_ret
 exact ⟨rfl, rfl⟩
def bksB (l : List Bk) : Bool := l.all bkB
theorem bksB_nth {l : List Bk} (h : bksB l = true) {j : Nat} (hj : j < l.length) : bkB (bnth l j) = true := by
 have : bnth l j ∈ l := by
  unfold bnth
  rw [List.getD_eq_getElem?_getD, List.getElem?_eq_getElem hj]
  exact List.getElem_mem hj
 exact List.all_eq_true.1 h _ this
theorem bksB_of {l : List Bk} (h : ∀ j, j < l.length → bkB (bnth l j) = true) : bksB l = true := by
 unfold bksB
 rw [List.all_eq_true]
 intro x hx
 obtain ⟨j, hj, rfl⟩ := List.mem_iff_getElem.1 hx
 have := h j hj
 simpa [bnth, List.getD_eq_getElem?_getD, hj] using this
theorem bksB_not {l : List Bk} {j : Nat} (hj : j < l.length) (h : bkB (bnth l j) = false) : bksB l = false := by
 rw [Bool.eq_false_iff]
 intro e
 rw [bksB_nth e hj] at h
 cases h
set_option maxRecDepth 100000 in
set_option maxHeartbeats 1000000 in
theorem index_any (a : Option Addr) (n cap : Nat) (l : List Bk) (w : World) (hc : CameB w a l) (hn : l.length = n) (hm : n ≤ maxLen) :
 Calls Tryz.prog 269 #[.slice a n cap, .func (.func 262) #[] #[]] w fun e w' => ∃ i : Int, e = .returned (.int .i64 i) ∧ -1 ≤ i ∧ (i = -1 ↔ bksB l = true) ∧ Below w.heap.size w w' := by
 have hm' : n ≤ 9223372036854775807 := by unfold maxLen at hm; omega
 have HO := Lib.hid (fun h0 => hc.open hn h0)
 clear hm hc
 go_enter Tryz.func269, Tryz.ntmps269
 go_wp2_with fail
 go_loopw [8] (fun i wr => ∃ k : Nat, k ≤ n ∧ i = .int .i64 k ∧ (∀ j, j < k → bkB (bnth l j) = true) ∧ Below w.heap.size w wr) (fun i _ => n - (intOf i).toNat)
 case atStart => exact ⟨0, Nat.zero_le _, rfl, fun j hj => by omega, Below.refl _ _⟩
 case round =>
  obtain ⟨k, hk, rfl, hall, hb⟩ := hrel
  have HA := Lib.hid hall
  have HB := Lib.hid hb
  clear hall hb
  by_cases hlt : k < n
  ·have hlt' : (k : Int) < (n : Int) := by omega
   obtain ⟨b, off, rfl, hcell⟩ := HO.out (by omega)
   obtain ⟨x0, x1⟩ := hcell wr HB.out k hlt
   clear hcell
   cases hr : bkB (bnth l k)
   ·have HE := Lib.hid (bksB_not (l := l) (j := k) (by omega) hr)
    go_wp2_with fail
    refine (notBk_any _ _ _).mono ?_
    rintro e w' ⟨rfl, h'⟩
    subst w'
    have hr' : bkB ⟨(bnth l k).frm, (bnth l k).rate⟩ = false := hr
    rw [hr']
    go_wp2_with fail
    go_ret
    exact ⟨k, rfl, by omega, ⟨fun h => by omega, fun h => by rw [HE.out] at h; cases h⟩, (HB.out.alloc HB.out.size _).alloc (by have := HB.out.size; simp; omega) _⟩
   ·go_wp2_with fail
    refine (notBk_any _ _ _).mono ?_
    rintro e w' ⟨rfl, h'⟩
    subst w'
    have hr' : bkB ⟨(bnth l k).frm, (bnth l k).rate⟩ = true := hr
    rw [hr']
    go_wp2_with fail
    go_roundw
    case rel =>
     refine ⟨k + 1, by omega, by go_num, ?_, (HB.out.alloc HB.out.size _).alloc (by have := HB.out.size; simp; omega) _⟩
     intro j hj
     by_cases e : j = k
     ·subst e; exact hr
     ·exact HA.out j (by omega)
    case measure => simp [intOf]; omega
  ·have hkn : k = n := by omega
   subst hkn
   have HL := Lib.hid (bksB_of (l := l) (fun j hj => HA.out j (by omega)))
   go_wp2_with fail
   go_ret
   exact ⟨-1, rfl, by omega, ⟨fun _ => HL.out, fun _ => rfl⟩, HB.out⟩
set_option maxHeartbeats 1000000 in
theorem contains_any (a : Option Addr) (n cap : Nat) (l : List Bk) (w : World) (hc : CameB w a l) (hn : l.length = n) (hm : n ≤ maxLen) :
 Calls Tryz.prog 261 #[.slice a n cap, .func (.func 262) #[] #[]] w fun e w' => e = .returned (.bool (!bksB l)) ∧ Below w.heap.size w w' := by
 have HC := Lib.hid hc
 have HM := Lib.hid hm
 clear hc hm
 go_enter Tryz.func261, Tryz.ntmps261
 go_wp2_with fail
 refine (index_any a n cap l _ HC.out hn HM.out).mono ?_
 rintro e w1 ⟨i, rfl, hi, hall, hb⟩
 have HB := Lib.hid hb
 clear hb
 have HR : Hid ((!bksB l) = decide (0 ≤ i)) := by
  unfold Hid
  cases h : bksB l
  ·rw [h] at hall
   have : i ≠ -1 := fun e => by have := hall.1 e; cases this
   simp; omega
  ·obtain rfl := hall.2 h
   simp
 clear hall
 go_wp2_with fail
 go_ret
 exact ⟨kret_bool (by rw [HR.out]), HB.out⟩
def upB (l : List Bk) : Bool := (List.range (l.length - 1)).all fun j => decide ((bnth l j).frm < (bnth l (j + 1)).frm)
theorem upB_iff {l : List Bk} : upB l = true ↔ ∀ j, j + 1 < l.length → (bnth l j).frm < (bnth l (j + 1)).frm := by
 unfold upB
 rw [List.all_eq_true]
 constructor
 ·intro h j hj
  exact of_decide_eq_true (h j (List.mem_range.2 (by omega)))
 ·intro h j hj
  exact decide_eq_true (h j (by have := List.mem_range.1 hj; omega))
theorem upB_not {l : List Bk} {j : Nat} (hj : j + 1 < l.length) (h : (bnth l (j + 1)).frm ≤ (bnth l j).frm) : upB l = false := by
 rw [Bool.eq_false_iff]
 intro e
 have := upB_iff.1 e j hj
 omega
set_option maxRecDepth 100000 in
set_option maxHeartbeats 1000000 in
theorem rise_any (a : Option Addr) (n cap : Nat) (l : List Bk) (w : World) (hc : CameB w a l) (hn : l.length = n) (hm : n ≤ maxLen) :
 Calls Tryz.prog 264 #[.slice a n cap] w fun e w' => e = .returned (.bool (upB l)) ∧ Below w.heap.size w w' := by
 have hm' : n ≤ 9223372036854775807 := by unfold maxLen at hm; omega
 have HO := Lib.hid (fun h0 => hc.open hn h0)
 clear hm hc
 go_enter Tryz.func264, Tryz.ntmps264
 go_wp2_with fail
 go_loopw [3] (fun i wr => ∃ r : Nat, (r + 1 ≤ n ∨ r = 0) ∧ i = .int .i64 ((r : Int) + 1) ∧ Below w.heap.size w wr ∧ ∀ j, j < r → (bnth l j).frm < (bnth l (j + 1)).frm) (fun i _ => n - (intOf i).toNat)
 case atStart => exact ⟨0, .inr rfl, rfl, Below.refl _ _, fun j hj => by omega⟩
 case round =>
  obtain ⟨r, hrk, rfl, hb, hall⟩ := hrel
  have HA := Lib.hid hall
  have HB := Lib.hid hb
  clear hall hb
  by_cases hlt : r + 1 < n
  ·have hlt' : (r : Int) + 1 < (n : Int) := by omega
   have hlt0 : (r : Int) < (n : Int) := by omega
   obtain ⟨b, off, rfl, hcell⟩ := HO.out (by omega)
   obtain ⟨x0, _⟩ := hcell _ HB.out r (by omega)
   obtain ⟨y0, _⟩ := hcell _ HB.out (r + 1) (by omega)
   clear hcell
   have hsub : (r : Int) + 1 - 1 = (r : Int) := by omega
   have htn : ((r : Int) + 1).toNat = r + 1 := by omega
   by_cases hr : (bnth l (r + 1)).frm ≤ (bnth l r).frm
   ·have HF := Lib.hid (upB_not (l := l) (j := r) (by omega) hr)
    go_wp2_with fail
    go_quiet (fail)
    go_wp2_with fail
    go_ret
    exact ⟨kret_bool HF.out.symm, kbelow_dN HB.out _⟩
   ·have hrB : decide ((bnth l (r + 1)).frm ≤ (bnth l r).frm) = false := decide_eq_false hr
    go_wp2_with fail
    go_quiet (fail)
    go_wp2_with fail
    go_roundw
    case rel =>
     refine ⟨r + 1, .inl (by omega), by go_num, kbelow_dN HB.out _, ?_⟩
     intro j hj
     by_cases e : j = r
     ·subst e; omega
     ·exact HA.out j (by omega)
    case measure => simp [intOf]; omega
  ·have hnl : ¬ ((r : Int) + 1 < (n : Int)) := by omega
   have HF := Lib.hid (upB_iff (l := l).2 (fun j hj => HA.out j (by omega)))
   go_wp2_with fail
   go_ret
   exact ⟨kret_bool HF.out.symm, HB.out⟩
end Go.Proofs.YtkalfdjmklakdaaGreatDoor
namespace Go.Proofs.YtkalfdjmklakdaaGreatDoor
open Go.RowKit
instance (s : ByteArray) : Decidable (NameP s) := by unfold NameP; infer_instance
def tblE (s : ByteArray) (l : List Bk) : Int := if ¬ NameP s then 1 else if l.length < 1 ∨ 12 < l.length then 2 else if bksB l = false then 3 else if (bnth l 0).frm ≠ 0 ∨ upB l = false then 4 else 0
theorem tblE_name {s : ByteArray} {l : List Bk} (h : ¬ NameP s) : tblE s l = 1 := by unfold tblE; rw [if_pos h]
theorem tblE_many {s : ByteArray} {l : List Bk} (h : NameP s) (h2 : l.length < 1 ∨ 12 < l.length) : tblE s l = 2 := by unfold tblE; rw [if_neg (by simpa using h), if_pos h2]
theorem tblE_range {s : ByteArray} {l : List Bk} (h : NameP s) (h2 : ¬ (l.length < 1 ∨ 12 < l.length)) (h3 : bksB l = false) : tblE s l = 3 := by unfold tblE; rw [if_neg (by simpa using h), if_neg h2, if_pos h3]
theorem tblE_state {s : ByteArray} {l : List Bk} (h : NameP s) (h2 : ¬ (l.length < 1 ∨ 12 < l.length)) (h3 : bksB l = true) (h4 : (bnth l 0).frm ≠ 0 ∨ upB l = false) : tblE s l = 4 := by unfold tblE; rw [if_neg (by simpa using h), if_neg h2, if_neg (by simp [h3]), if_pos h4]
theorem tblE_yes {s : ByteArray} {l : List Bk} (h : NameP s) (h2 : ¬ (l.length < 1 ∨ 12 < l.length)) (h3 : bksB l = true) (h4 : (bnth l 0).frm = 0) (h5 : upB l = true) : tblE s l = 0 := by unfold tblE; rw [if_neg (by simpa using h), if_neg h2, if_neg (by simp [h3]), if_neg (by simp [h4, h5])]
theorem tblE_bd (s : ByteArray) (l : List Bk) : 0 ≤ tblE s l ∧ tblE s l ≤ 4 := by
 unfold tblE
 (repeat' split) <;> omega
def Right (l : List Bk) : Prop := 1 ≤ l.length ∧ l.length ≤ 12 ∧ bksB l = true ∧ (bnth l 0).frm = 0 ∧ upB l = true
theorem tblE_ok {s : ByteArray} {l : List Bk} (h : tblE s l = 0) : NameP s ∧ Right l := by
 unfold tblE at h
 split at h
 ·cases h
 ·split at h
  ·cases h
  ·split at h
   ·cases h
   ·split at h
    ·cases h
    ·rename_i h1 h2 h3 h4
     refine ⟨by simpa using h1, by omega, by omega, by simpa using h3, ?_, ?_⟩
     ·by_cases e : (bnth l 0).frm = 0
      ·exact e
      ·exact absurd (.inl e) h4
     ·cases e : upB l
      ·exact absurd (.inr e) h4
      ·rfl
set_option maxRecDepth 100000 in
set_option maxHeartbeats 2000000 in
theorem Check_any (s : ByteArray) (a : Option Addr) (n cap : Nat) (l : List Bk) (w : World) (hc : CameB w a l) (hn : l.length = n) (hm : n ≤ maxLen) :
 Calls Tryz.prog 252 #[.agg #[.string s, .slice a n cap]] w fun e w' => e = .returned (.int .i64 (tblE s l)) ∧ Below w.heap.size w w' := by
 have hm' : n ≤ 9223372036854775807 := by unfold maxLen at hm; omega
 have HC := Lib.hid hc
 have HM := Lib.hid hm
 clear hm hc
 have HB0 := Lib.hid (kbelow_box w (.cells #[.string s, .slice a n cap] 135))
 have HT0 := Lib.hid (TIs.made w s a n cap 135)
 go_enter Tryz.func252, Tryz.ntmps252
 go_wp2_with fail
 refine (IsName_any s _).mono ?_
 rintro e w1 ⟨b, rfl, hb, hbel⟩
 have HB1 := Lib.hid (HB0.out.trans (hbel.mono HB0.out.size))
 have HT1 := Lib.hid (HT0.out.below hbel HT0.out.1)
 have HN := Lib.hid hb
 clear hb hbel HT0 HB0
 obtain ⟨_, x0, x1⟩ := HT1.out
 cases b
 ·have HE : Hid (tblE s l = 1) := tblE_name (fun h => by have := HN.out.2 h; cases this)
  go_wp2_with fail
  go_ret
  exact ⟨kret_int (HE.out.symm), HB1.out⟩
 ·have HNP := Lib.hid (HN.out.1 rfl)
  clear HN
  by_cases h1 : n < 1
  ·have HE : Hid (tblE s l = 2) := tblE_many HNP.out (.inl (by omega))
   obtain rfl : n = 0 := by omega
   go_wp2_with fail
   go_ret
   exact ⟨kret_int (HE.out.symm), HB1.out⟩
  ·have h1' : ¬ ((n : Int) < 1) := by omega
   have h1B : decide ((n : Int) < 1) = false := decide_eq_false h1'
   by_cases h2 : 12 < n
   ·have HE : Hid (tblE s l = 2) := tblE_many HNP.out (.inr (by omega))
    have h2' : (12 : Int) < (n : Int) := by omega
    go_wp2_with fail
    go_ret
    exact ⟨kret_int (HE.out.symm), HB1.out⟩
   ·have h2' : ¬ ((12 : Int) < (n : Int)) := by omega
    have h2B : decide ((12 : Int) < (n : Int)) = false := decide_eq_false h2'
    have HL : Hid (¬ (l.length < 1 ∨ 12 < l.length)) := by unfold Hid; omega
    go_wp2_with fail
    refine (contains_any a n cap l _ (HC.out.below HB1.out) hn HM.out).mono ?_
    rintro e w2 ⟨rfl, hb2⟩
    have HB2 := Lib.hid (HB1.out.trans (hb2.mono HB1.out.size))
    have HT2 := Lib.hid (HT1.out.below hb2 HT1.out.1)
    clear hb2 x0 x1 HT1 HB1
    obtain ⟨_, x0, x1⟩ := HT2.out
    have HB1 := HB2
    have HT1 := HT2
    clear HB2 HT2
    cases hbk : bksB l
    ·have HE : Hid (tblE s l = 3) := tblE_range HNP.out HL.out hbk
     go_wp2_with fail
     go_ret
     exact ⟨kret_int (HE.out.symm), HB1.out⟩
    ·obtain ⟨b, off, rfl, hcell⟩ := (HC.out.open hn (by omega))
     obtain ⟨y0, y1⟩ := hcell w2 HB1.out 0 (by omega)
     clear hcell
     simp only [Nat.zero_mul, Nat.add_zero] at y0 y1
     have hpos : (0 : Int) < (n : Int) := by omega
     by_cases h0 : (bnth l 0).frm = 0
     ·have h0B : decide ((bnth l 0).frm = 0) = true := decide_eq_true h0
      have h0N : ((bnth l 0).frm != 0) = false := by simp [h0]
      go_wp2_with fail
      refine (rise_any _ n cap l _ (HC.out.below HB1.out) hn HM.out).mono ?_
      rintro e w3 ⟨rfl, hb3⟩
      have HB3 := Lib.hid (HB1.out.trans (hb3.mono HB1.out.size))
      clear hb3 HB1
      have HB1 := HB3
      clear HB3
      cases hup : upB l
      ·have HE : Hid (tblE s l = 4) := tblE_state HNP.out HL.out hbk (.inr hup)
       go_wp2_with fail
       go_ret
       exact ⟨kret_int (HE.out.symm), HB1.out⟩
      ·have HE : Hid (tblE s l = 0) := tblE_yes HNP.out HL.out hbk h0 hup
       go_wp2_with fail
       go_ret
       exact ⟨kret_int (HE.out.symm), HB1.out⟩
     ·have h0B : decide ((bnth l 0).frm = 0) = false := decide_eq_false h0
      have h0N : ((bnth l 0).frm != 0) = true := by simp [h0]
      have HE : Hid (tblE s l = 4) := tblE_state HNP.out HL.out hbk (.inl h0)
      go_wp2_with fail
      go_ret
      exact ⟨kret_int (HE.out.symm), HB1.out⟩
end Go.Proofs.YtkalfdjmklakdaaGreatDoor
namespace Go.Proofs.YtkalfdjmklakdaaGreatDoor
open Go.RowKit
set_option maxRecDepth 100000 in
set_option maxHeartbeats 4000000 in
theorem check_ref (s : ByteArray) (a : Option Addr) (n cap : Nat) (l : List Bk) (w : World) (hs : s.size ≤ 9223372036854775807) (hc : CameB w a l) (hn : l.length = n) (hm : n ≤ maxLen) :
 Calls Tryz.prog 203 #[.agg #[.string s, .slice a n cap]] w fun e w' => e = .returned (.int .i64 (tblE s l)) ∧ Below w.heap.size w w' := by
 have hm' : n ≤ 9223372036854775807 := by unfold maxLen at hm; omega
 have HC := Lib.hid hc
 have HM := Lib.hid hm
 clear hm hc
 have HB0 := Lib.hid (kbelow_box w (.cells #[.string s, .slice a n cap] 135))
 have HT0 := Lib.hid (TIs.made w s a n cap 135)
 go_enter Tryz.func203, Tryz.ntmps203
 go_wp2_with fail
 refine (isName_ref s _ hs).mono ?_
 rintro e w1 ⟨b, rfl, hb, hbel⟩
 have HB1 := Lib.hid (HB0.out.trans (hbel.mono HB0.out.size))
 have HT1 := Lib.hid (HT0.out.below hbel HT0.out.1)
 have HN := Lib.hid hb
 clear hb hbel HT0 HB0
 obtain ⟨_, x0, x1⟩ := HT1.out
 cases b
 ·have HE : Hid (tblE s l = 1) := tblE_name (fun h => by have := HN.out.2 h; cases this)
  go_wp2_with fail
  go_ret
  exact ⟨kret_int (HE.out.symm), HB1.out⟩
 ·have HNP := Lib.hid (HN.out.1 rfl)
  clear HN
  by_cases h1 : n < 1
  ·have HE : Hid (tblE s l = 2) := tblE_many HNP.out (.inl (by omega))
   obtain rfl : n = 0 := by omega
   go_wp2_with fail
   go_ret
   exact ⟨kret_int (HE.out.symm), HB1.out⟩
  ·have h1' : ¬ ((n : Int) < 1) := by omega
   have h1B : decide ((n : Int) < 1) = false := decide_eq_false h1'
   by_cases h2 : 12 < n
   ·have HE : Hid (tblE s l = 2) := tblE_many HNP.out (.inr (by omega))
    have h2' : (12 : Int) < (n : Int) := by omega
    go_wp2_with fail
    go_ret
    exact ⟨kret_int (HE.out.symm), HB1.out⟩
   ·have h2' : ¬ ((12 : Int) < (n : Int)) := by omega
    have h2B : decide ((12 : Int) < (n : Int)) = false := decide_eq_false h2'
    have HL : Hid (¬ (l.length < 1 ∨ 12 < l.length)) := by unfold Hid; omega
    obtain ⟨b, off, rfl, hcell⟩ := (HC.out.open hn (by omega))
    have HO := Lib.hid hcell
    clear hcell HC
    go_wp2_with fail
    go_loopw [3] (fun i wr => ∃ k : Nat, k ≤ n ∧ i = .int .i64 k ∧ (∀ j, j < k → bkB (bnth l j) = true) ∧ Below w1.heap.size w1 wr) (fun i _ => n - (intOf i).toNat)
    case atStart => exact ⟨0, Nat.zero_le _, rfl, fun j hj => by omega, Below.refl _ _⟩
    case round =>
     obtain ⟨k, hk, rfl, hall, hbr⟩ := hrel
     have HBR := Lib.hid hbr
     have HB := Lib.hid (HB1.out.trans (hbr.mono HB1.out.size))
     have HA := Lib.hid hall
     clear hall hbr x0 x1
     obtain ⟨_, x0, x1⟩ := HT1.out.below HBR.out HT1.out.1
     have HQ : Hid (∀ o, Below w1.heap.size w1 (wr.alloc o)) := fun o => HBR.out.alloc HBR.out.size o
     by_cases hlt : k < n
     ·have hlt' : (k : Int) < (n : Int) := by omega
      obtain ⟨y0, y1⟩ := HO.out wr HB.out k hlt
      have HNO : Hid (bkB (bnth l k) = false → tblE s l = 3) := fun hr => tblE_range HNP.out HL.out (bksB_not (l := l) (j := k) (by omega) hr)
      have HYES : Hid (bkB (bnth l k) = true → ∀ j, j < k + 1 → bkB (bnth l j) = true) := fun hr j hj => by
       by_cases e : j = k
       ·subst e; exact hr
       ·exact HA.out j (by omega)
      generalize bnth l k = r at *
      obtain ⟨f, rt⟩ := r
      simp only at y0 y1
      by_cases c1 : f < 0
      ·have HE := Lib.hid (HNO.out (decide_eq_false (fun h => by have := h.1; simp only at this; omega)))
       go_wp2_with fail
       go_ret
       exact ⟨kret_int (HE.out.symm), HB.out.alloc HB.out.size _⟩
      ·have c1B : decide (f < 0) = false := decide_eq_false c1
       by_cases c2 : 1000000000000 < f
       ·have HE := Lib.hid (HNO.out (decide_eq_false (fun h => by have := h.2.1; simp only at this; omega)))
        go_wp2_with fail
        go_ret
        exact ⟨kret_int (HE.out.symm), HB.out.alloc HB.out.size _⟩
       ·have c2B : decide (1000000000000 < f) = false := decide_eq_false c2
        by_cases c3 : rt < 0
        ·have HE := Lib.hid (HNO.out (decide_eq_false (fun h => by have := h.2.2.1; simp only at this; omega)))
         go_wp2_with fail
         go_ret
         exact ⟨kret_int (HE.out.symm), HB.out.alloc HB.out.size _⟩
        ·have c3B : decide (rt < 0) = false := decide_eq_false c3
         by_cases c4 : 10000 < rt
         ·have HE := Lib.hid (HNO.out (decide_eq_false (fun h => by have := h.2.2.2; simp only at this; omega)))
          go_wp2_with fail
          go_ret
          exact ⟨kret_int (HE.out.symm), HB.out.alloc HB.out.size _⟩
         ·have c4B : decide (10000 < rt) = false := decide_eq_false c4
          have HY := Lib.hid (HYES.out (decide_eq_true ⟨by simp only; omega, by simp only; omega, by simp only; omega, by simp only; omega⟩))
          go_wp2_with fail
          go_roundw
          case rel => exact ⟨k + 1, by omega, by go_num, HY.out, HQ.out _⟩
          case measure => simp [intOf]; omega
     ·have hkn : k = n := by omega
      subst hkn
      have HLK := Lib.hid (bksB_of (l := l) (fun j hj => HA.out j (by omega)))
      clear HA
      go_wp2_with fail
      go_loopw [5] (fun i wq => ∃ r : Nat, r ≤ k ∧ i = .int .i64 r ∧ Below wr.heap.size wr wq ∧ (0 < r → (bnth l 0).frm = 0) ∧ ∀ j, j + 1 < r → (bnth l j).frm < (bnth l (j + 1)).frm) (fun i _ => k - (intOf i).toNat)
      case atStart => exact ⟨0, Nat.zero_le _, rfl, Below.refl _ _, fun h => absurd h (by omega), fun j hj => by omega⟩
      case round =>
       obtain ⟨r, hrk, rfl, hbq, hz, hall⟩ := hrel
       have HA := Lib.hid hall
       have HZ := Lib.hid hz
       have HBQ := Lib.hid hbq
       have HBW := Lib.hid (HB.out.trans (hbq.mono HB.out.size))
       have HT2 := Lib.hid ((HT1.out.below HBR.out HT1.out.1).below hbq (HT1.out.below HBR.out HT1.out.1).1)
       clear hall hbq x0 x1 hz
       obtain ⟨_, x0, x1⟩ := HT2.out
       by_cases hlt : r < k
       ·have hlt' : (r : Int) < (k : Int) := by omega
        obtain ⟨y0, _⟩ := HO.out _ HBW.out r (by omega)
        by_cases hr0 : r = 0
        ·subst hr0
         simp only [Nat.zero_mul, Nat.add_zero] at y0
         by_cases h0 : (bnth l 0).frm = 0
         ·have h0B : decide ((bnth l 0).frm = 0) = true := decide_eq_true h0
          have h0N : ((bnth l 0).frm != 0) = false := by simp [h0]
          go_wp2_with fail
          go_quiet (fail)
          go_wp2_with fail
          go_roundw
          case rel => exact ⟨0 + 1, by omega, by go_num, kbelow_dN HBQ.out _, fun _ => h0, fun j hj => by omega⟩
          case measure => simp [intOf]; omega
         ·have h0B : decide ((bnth l 0).frm = 0) = false := decide_eq_false h0
          have h0N : ((bnth l 0).frm != 0) = true := by simp [h0]
          have HE : Hid (tblE s l = 4) := tblE_state HNP.out HL.out HLK.out (.inl h0)
          go_wp2_with fail
          go_quiet (fail)
          go_wp2_with fail
          go_ret
          exact ⟨kret_int HE.out.symm, kbelow_dN HBW.out _⟩
        ·obtain ⟨q, rfl⟩ : ∃ q, r = q + 1 := ⟨r - 1, by omega⟩
         obtain ⟨z0, _⟩ := HO.out _ HBW.out q (by omega)
         rw [show ((q + 1 : Nat) : Int) = (q : Int) + 1 by omega]
         rw [show ((q + 1 : Nat) : Int) = (q : Int) + 1 by omega] at hlt'
         have hsub : (q : Int) + 1 - 1 = (q : Int) := by omega
         have htn : ((q : Int) + 1).toNat = q + 1 := by omega
         have hlq : (q : Int) < (k : Int) := by omega
         have hpB : decide ((0 : Int) < (q : Int) + 1) = true := decide_eq_true (by omega)
         have hzB : decide ((q : Int) + 1 = 0) = false := decide_eq_false (by omega)
         have hzE : ((q : Int) + 1 == 0) = false := by simp; omega
         have hp' : (0 : Int) < (q : Int) + 1 := by omega
         by_cases hr : (bnth l (q + 1)).frm ≤ (bnth l q).frm
         ·have hrB : decide ((bnth l (q + 1)).frm ≤ (bnth l q).frm) = true := decide_eq_true hr
          have HE : Hid (tblE s l = 4) := tblE_state HNP.out HL.out HLK.out (.inr (upB_not (l := l) (j := q) (by omega) hr))
          go_wp2_with fail
          go_quiet (fail)
          go_wp2_with fail
          go_ret
          exact ⟨kret_int HE.out.symm, kbelow_dN HBW.out _⟩
         ·have hrB : decide ((bnth l (q + 1)).frm ≤ (bnth l q).frm) = false := decide_eq_false hr
          go_wp2_with fail
          go_quiet (fail)
          go_wp2_with fail
          go_roundw
          case rel =>
           refine ⟨q + 1 + 1, by omega, by go_num, kbelow_dN HBQ.out _, fun _ => HZ.out (by omega), ?_⟩
           intro j hj
           by_cases e : j = q
           ·subst e; omega
           ·exact HA.out j (by omega)
          case measure => simp [intOf]; omega
       ·have hrk' : r = k := by omega
        subst hrk'
        have HE : Hid (tblE s l = 0) := tblE_yes HNP.out HL.out HLK.out (HZ.out (by omega)) (upB_iff.2 (fun j hj => HA.out j (by omega)))
        go_wp2_with fail
        go_ret
        exact ⟨kret_int HE.out.symm, HBW.out⟩
end Go.Proofs.YtkalfdjmklakdaaGreatDoor
