/-
  Promise R4: the last slips that stand, of each person; the walk of Lasts.
-/
import Derived.Test.YtiedlmhahdnhaaaSSame
import Derived.Test.YtiedlmhahdnhaaaShelf
import Derived.StringKeys
import Derived.Maps.OwnSet
import Derived.Maps.RangeWalk
import Derived.Maps.Ext
import Derived.Sort.OwnSortedInts
import Derived.Lib.OwnBridge
import Derived.Lib.RowBridge
import Derived.Shelf.Slices.In.SortNone
namespace Go.Proofs.Ytiedlmhahdnhaaa
open Go.RowKit Go.Sort Go.Maps Go.WideMaps

/-- The number of the last of the first k slips that stands, of a person. -/
def lastN (l : List Sl) : Nat → Int → Option Int
  | 0, _ => none
  | k + 1, x => if (snth l k).gone = false ∧ (snth l k).per = x then some (snth l k).num else lastN l k x
/-- Is slip i the last one of its person that stands, of the t behind it? -/
def lst (l : List Sl) (i : Nat) : Nat → Bool
  | 0 => !(snth l i).gone
  | t + 1 => lst l i t && ((snth l (i + 1 + t)).per != (snth l i).per || (snth l (i + 1 + t)).gone)
def isLast (l : List Sl) (i : Nat) : Bool := lst l i (l.length - (i + 1))
/-- The numbers of those among the first k. -/
def lastsTo (l : List Sl) (k : Nat) : List Int := ((List.range k).filter (isLast l)).map fun i => (snth l i).num
theorem lastsTo_step (l : List Sl) (k : Nat) : lastsTo l (k + 1) = lastsTo l k ++ (if isLast l k = true then [(snth l k).num] else []) := by
  unfold lastsTo
  rw [List.range_succ, List.filter_append, List.map_append]
  congr 1
  by_cases h : isLast l k = true
  · rw [if_pos h]; simp [h]
  · rw [if_neg h]; simp [h]
theorem lst_iff {l : List Sl} {i : Nat} : ∀ t, lst l i t = true ↔ (snth l i).gone = false ∧ ∀ k, i < k → k < i + 1 + t → (snth l k).per ≠ (snth l i).per ∨ (snth l k).gone = true
  | 0 => by
    unfold lst
    constructor
    · intro h; exact ⟨by simpa using h, fun k _ _ => by omega⟩
    · intro h; simpa using h.1
  | t + 1 => by
    unfold lst
    rw [Bool.and_eq_true, lst_iff t]
    constructor
    · rintro ⟨⟨h1, h2⟩, h3⟩
      refine ⟨h1, fun k a b => ?_⟩
      by_cases e : k = i + 1 + t
      · subst e
        rcases (Bool.or_eq_true _ _).mp h3 with q | q
        · exact .inl (by simpa using q)
        · exact .inr q
      · exact h2 k a (by omega)
    · rintro ⟨h1, h2⟩
      refine ⟨⟨h1, fun k a b => h2 k a (by omega)⟩, ?_⟩
      rcases h2 (i + 1 + t) (by omega) (by omega) with q | q
      · have : ((snth l (i + 1 + t)).per != (snth l i).per) = true := by simpa using q
        rw [this]; rfl
      · rw [q]; simp
theorem isLast_iff {l : List Sl} {i : Nat} (hi : i < l.length) : isLast l i = true ↔ (snth l i).gone = false ∧ ∀ k, i < k → k < l.length → (snth l k).per ≠ (snth l i).per ∨ (snth l k).gone = true := by
  unfold isLast
  rw [lst_iff, show i + 1 + (l.length - (i + 1)) = l.length from by omega]
theorem lastN_iff {l : List Sl} {x z : Int} : ∀ n, lastN l n x = some z ↔ ∃ i, i < n ∧ (snth l i).gone = false ∧ (snth l i).per = x ∧ (snth l i).num = z ∧ ∀ k, i < k → k < n → (snth l k).per ≠ x ∨ (snth l k).gone = true
  | 0 => by
    unfold lastN
    constructor
    · intro h; cases h
    · rintro ⟨i, hi, _⟩; omega
  | n + 1 => by
    unfold lastN
    by_cases e : (snth l n).gone = false ∧ (snth l n).per = x
    · rw [if_pos e]
      constructor
      · intro h
        exact ⟨n, by omega, e.1, e.2, Option.some.inj h, fun k a b => by omega⟩
      · rintro ⟨i, hi, h1, h2, h3, h4⟩
        by_cases q : i = n
        · subst q; rw [h3]
        · rcases h4 n (by omega) (by omega) with q1 | q1
          · exact absurd e.2 q1
          · rw [e.1] at q1; cases q1
    · rw [if_neg e, lastN_iff n]
      constructor
      · rintro ⟨i, hi, h1, h2, h3, h4⟩
        refine ⟨i, by omega, h1, h2, h3, fun k a b => ?_⟩
        by_cases q : k = n
        · subst q
          by_cases q1 : (snth l k).per = x
          · refine .inr ?_
            cases q2 : (snth l k).gone
            · exact absurd ⟨q2, q1⟩ e
            · rfl
          · exact .inl q1
        · exact h4 k a (by omega)
      · rintro ⟨i, hi, h1, h2, h3, h4⟩
        by_cases q : i = n
        · subst q; exact absurd ⟨h1, h2⟩ e
        · exact ⟨i, by omega, h1, h2, h3, fun k a b => h4 k a (by omega)⟩
theorem lasts_mem {l : List Sl} {z : Int} : z ∈ lastsTo l l.length ↔ ∃ x, lastN l l.length x = some z := by
  unfold lastsTo
  rw [List.mem_map]
  constructor
  · rintro ⟨i, hi, hz⟩
    obtain ⟨hi1, hi2⟩ := List.mem_filter.1 hi
    have hi3 := List.mem_range.1 hi1
    obtain ⟨h1, h2⟩ := (isLast_iff hi3).1 hi2
    exact ⟨(snth l i).per, (lastN_iff _).2 ⟨i, hi3, h1, rfl, hz, h2⟩⟩
  · rintro ⟨x, hx⟩
    obtain ⟨i, hi, h1, h2, h3, h4⟩ := (lastN_iff _).1 hx
    refine ⟨i, List.mem_filter.2 ⟨List.mem_range.2 hi, (isLast_iff hi).2 ⟨h1, fun k a b => ?_⟩⟩, h3⟩
    rw [h2]
    exact h4 k a b
theorem upS_lt {l : List Sl} (h : upS l = true) : ∀ j, j < l.length → ∀ i, i < j → (snth l i).num < (snth l j).num := by
  intro j
  induction j with
  | zero => intro _ i hi; omega
  | succ j ih =>
    intro hj i hi
    have h1 := upS_iff.1 h j hj
    by_cases e : i = j
    · subst e; exact h1
    · have := ih (by omega) i (by omega); omega
theorem lasts_up {l : List Sl} (h : upS l = true) : (lastsTo l l.length).Pairwise (· < ·) := by
  unfold lastsTo
  rw [List.pairwise_map]
  refine List.Pairwise.filter _ ?_
  rw [List.pairwise_iff_getElem]
  intro i j hi hj hij
  simp only [List.length_range] at hi hj
  simp only [List.getElem_range]
  exact upS_lt h j hj i hij
theorem lastN_inj {l : List Sl} (h : upS l = true) {x y z : Int} (hx : lastN l l.length x = some z) (hy : lastN l l.length y = some z) : x = y := by
  obtain ⟨i, hi, _, h2, h3, _⟩ := (lastN_iff _).1 hx
  obtain ⟨j, hj, _, k2, k3, _⟩ := (lastN_iff _).1 hy
  have e : i = j := by
    by_cases a : i < j
    · have := upS_lt h j hj i a; omega
    · by_cases b : j < i
      · have := upS_lt h i hi j b; omega
      · omega
  subst e
  rw [← h2, ← k2]
def sortI (zs : List Int) : List Int := zs.mergeSort fun x y => decide (x ≤ y)
theorem sortI_le (zs : List Int) : (sortI zs).Pairwise (· ≤ ·) := by
  have := List.pairwise_mergeSort (le := fun x y : Int => decide (x ≤ y)) (fun a b c h1 h2 => by simp at h1 h2 ⊢; omega) (fun a b => by simp; omega) zs
  exact this.imp fun h => of_decide_eq_true h
theorem sortI_perm (zs : List Int) : (sortI zs).Perm zs := List.mergeSort_perm _ _
theorem sortI_is {l : List Sl} (h : upS l = true) {L : List Int} (hn : L.Nodup) (hm : ∀ z, z ∈ L ↔ ∃ x, lastN l l.length x = some z) : sortI L = lastsTo l l.length := by
  have hp := sortI_perm L
  have hnd : (sortI L).Nodup := hp.nodup_iff.2 hn
  have hnd2 : (lastsTo l l.length).Nodup := (lasts_up h).imp fun q e => by omega
  have hlt : (sortI L).Pairwise (· < ·) := by
    have h1 := sortI_le L
    have h2 : (sortI L).Pairwise (· ≠ ·) := hnd
    exact (h1.and h2).imp fun ⟨a, b⟩ => by omega
  refine List.Perm.eq_of_pairwise (fun a b _ _ h1 h2 => by omega) hlt (lasts_up h) ?_
  refine (List.perm_ext_iff_of_nodup hnd hnd2).2 fun z => ?_
  rw [hp.mem_iff, hm z, lasts_mem]
theorem intLaw : Keyed Try.prog 3 := int_keyed Try.underlying3
theorem key_int {x : Int} (h : (Lit.int .i64 x).wf = true) : keyOf Try.prog 3 (.int .i64 x) = some (.int .i64 x) := by simp [keyOf, Try.underlying3, mapKey, h]
/-- The map in block b has what g tells, of n keys at most. -/
def MapL (w : World) (b n : Nat) (g : Int → Option Int) : Prop := ∃ D : DataW Unit, w.ownsMap Try.prog 3 (plainElem (H := Unit) Try.prog 3) b n D ∧ ∀ x, Maps.has D (.int .i64 x) = (g x).isSome ∧ D.atKey (.int .i64 x) (.lit (.int .i64 0)) = .lit (.int .i64 ((g x).getD 0))
theorem MapL.lt {w : World} {b n : Nat} {g : Int → Option Int} (h : MapL w b n g) : b < w.heap.size := by
  obtain ⟨D, h, _⟩ := h
  exact h.lt
theorem MapL.below {w w' : World} {b n : Nat} {g : Int → Option Int} (h : MapL w b n g) (hb : Go.RowKit.Below w.heap.size w w') : MapL w' b n g := by
  have hlt := h.lt
  obtain ⟨D, ⟨es, clock, hbk, h3⟩, h2⟩ := h
  exact ⟨D, ⟨es, clock, by rw [hb.block b hlt]; exact hbk, h3⟩, h2⟩
theorem MapL.made (w : World) : MapL (w.alloc (.map #[] 0)) w.heap.size 0 (fun _ => none) :=
  ⟨.map [], World.ownsMap_made _ _ _ _, fun x => ⟨by simp [Maps.has], by simp [DataW.atKey]⟩⟩
theorem mapL_put {D : DataW Unit} {g : Int → Option Int} {z v : Int} (hm : IsMap D) (h : ∀ x, Maps.has D (.int .i64 x) = (g x).isSome ∧ D.atKey (.int .i64 x) (.lit (.int .i64 0)) = .lit (.int .i64 ((g x).getD 0))) (x : Int) :
    Maps.has (D.put (.int .i64 z) (.lit (.int .i64 v))) (.int .i64 x) = (if z = x then some v else g x).isSome ∧ (D.put (.int .i64 z) (.lit (.int .i64 v))).atKey (.int .i64 x) (.lit (.int .i64 0)) = .lit (.int .i64 ((if z = x then some v else g x).getD 0)) := by
  by_cases e : z = x
  · rw [if_pos e, ← e]
    exact ⟨has_put_same hm (show WideAt.IsKeyLit (.int .i64 z) from trivial) _, atKey_put_same hm (show WideAt.IsKeyLit (.int .i64 z) from trivial) _ _⟩
  · rw [if_neg e, has_put_other (by intro q; cases q; exact e rfl), atKey_put_other (by intro q; cases q; exact e rfl)]
    exact h x
theorem own_sizeL {w : World} {b n : Nat} {D : DataW Unit} (h : w.ownsMap Try.prog 3 (plainElem (H := Unit) Try.prog 3) b n D) : Maps.size D ≤ n := h.size_le
/-- What came of the map so far: each number once. -/
def SoFarL (g : Int → Option Int) (left : Lit → Bool) (L : List Int) : Prop := L.Nodup ∧ ∀ z, z ∈ L ↔ ∃ x, g x = some z ∧ left (.int .i64 x) = false
theorem same_int (a b : Int) : (Lit.int .i64 a).sameKey (.int .i64 b) = decide (a = b) := by
  by_cases e : a = b
  · subst e
    rw [WideAt.sameKey_self (show WideAt.IsKeyLit (.int .i64 a) from trivial)]
    simp
  · cases h : (Lit.int .i64 a).sameKey (.int .i64 b)
    · simp [e]
    · have := WideAt.sameKey_eq h
      injection this with _ this
      exact absurd this e
theorem SoFarL.take {g : Int → Option Int} {left : Lit → Bool} {L : List Int} (hj : ∀ x y z, g x = some z → g y = some z → x = y) (h : SoFarL g left L) {x c : Int} (hl0 : left (.int .i64 x) = true) (hg : g x = some c) : SoFarL g (fun z => left z && !z.sameKey (.int .i64 x)) (L ++ [c]) := by
  obtain ⟨h1, h2⟩ := h
  have hnew : c ∉ L := fun hin => by
    obtain ⟨y, hy, hl⟩ := (h2 c).1 hin
    rw [hj y x c hy hg, hl0] at hl
    cases hl
  refine ⟨?_, fun z => ?_⟩
  · rw [List.nodup_append]
    refine ⟨h1, by simp, fun a ha b hb e => ?_⟩
    simp only [List.mem_singleton] at hb
    subst hb
    subst e
    exact hnew ha
  · rw [List.mem_append, h2, List.mem_singleton]
    constructor
    · rintro (⟨y, hy, hl⟩ | rfl)
      · exact ⟨y, hy, by simp [hl]⟩
      · exact ⟨x, hg, by simp only [same_int]; simp⟩
    · rintro ⟨y, hy, hl⟩
      simp only [same_int] at hl
      by_cases e : y = x
      · subst e
        rw [hg] at hy
        exact .inr (Option.some.inj hy).symm
      · exact .inl ⟨y, hy, by simpa [e] using hl⟩
end Go.Proofs.Ytiedlmhahdnhaaa
