/-
  Promises M2, M4: totals sorted: the library's sort with compare.
-/
import Derived.Test.YtfamnlaignjhkaaOCheckT
import Derived.Test.YtfamnlaignjhkaaOShelf
import Derived.Lib.OwnBridge
namespace Go.Proofs.Ytfamnlaignjhkaa
open Go.RowKit Go.Sort Go.Shelf

instance : Inhabited Tt := ⟨⟨0, ⟨#[]⟩, 0, 0⟩⟩
def encT (x : Tt) : List Value := [.int .i64 x.per, .string x.nam, .int .i64 x.yr, .int .i64 x.mon]
theorem bytesLessL : ∀ (x y : List UInt8), Op.bytesLess x y = decide (x < y)
  | [], [] => by simp [Op.bytesLess]
  | _ :: _, [] => by simp [Op.bytesLess]
  | [], _ :: _ => by simp [Op.bytesLess]
  | a :: x, b :: y => by
    rw [Op.bytesLess, bytesLessL x y]
    simp only [List.cons_lt_cons_iff]
    by_cases h1 : a < b <;> by_cases h2 : a = b <;> by_cases h3 : x < y <;> simp [h1, h2, h3]
theorem ltS_iff {a b : ByteArray} : ltS a b = true ↔ a.toList < b.toList := by unfold ltS; rw [bytesLessL]; simp
theorem ltS_irrefl (a : ByteArray) : ltS a a = false := by
  rw [Bool.eq_false_iff]
  intro h
  exact List.lt_irrefl _ (ltS_iff.1 h)
theorem ltS_trans {a b c : ByteArray} (h1 : ltS a b = true) (h2 : ltS b c = true) : ltS a c = true := ltS_iff.2 (List.lt_trans (ltS_iff.1 h1) (ltS_iff.1 h2))
theorem ltS_tri {a b : ByteArray} (h1 : ltS a b = false) (h2 : ltS b a = false) : a = b := by
  have e1 : ¬ a.toList < b.toList := fun h => by rw [ltS_iff.2 h] at h1; cases h1
  have e2 : ¬ b.toList < a.toList := fun h => by rw [ltS_iff.2 h] at h2; cases h2
  have e : a.toList = b.toList := List.le_antisymm (List.not_lt.1 e2) (List.not_lt.1 e1)
  rw [ByteArray.toList_eq, ByteArray.toList_eq] at e
  cases a
  cases b
  simp at e
  rw [e]
theorem aheadT_iff {a b : Tt} : aheadT a b = true ↔ a.per < b.per ∨ (a.per = b.per ∧ (a.yr < b.yr ∨ (a.yr = b.yr ∧ ltS a.nam b.nam = true))) := by
  unfold aheadT
  by_cases h : a.per = b.per
  · rw [if_pos h]
    by_cases h' : a.yr = b.yr
    · rw [if_pos h']; simp [h, h']
    · rw [if_neg h']; simp [h, h']
  · rw [if_neg h]; simp [h]
theorem aheadT_irrefl (a : Tt) : aheadT a a = false := by
  rw [Bool.eq_false_iff]
  intro h
  have := aheadT_iff.1 h
  rw [ltS_irrefl] at this
  simp at this
theorem aheadT_trans {a b c : Tt} (h1 : aheadT a b = true) (h2 : aheadT b c = true) : aheadT a c = true := by
  rw [aheadT_iff] at *
  rcases h1 with h1 | ⟨h1, h1' | ⟨h1', h1''⟩⟩ <;> rcases h2 with h2 | ⟨h2, h2' | ⟨h2', h2''⟩⟩
  all_goals first | exact .inl (by omega) | exact .inr ⟨by omega, .inl (by omega)⟩ | exact .inr ⟨by omega, .inr ⟨by omega, ltS_trans h1'' h2''⟩⟩
/-- Two of which none stands ahead have the same person, year and name. -/
theorem aheadT_tri {a b : Tt} (h1 : aheadT a b = false) (h2 : aheadT b a = false) : a.per = b.per ∧ a.yr = b.yr ∧ a.nam = b.nam := by
  have n1 : ¬ _ := fun h => by rw [aheadT_iff.2 h] at h1; cases h1
  have n2 : ¬ _ := fun h => by rw [aheadT_iff.2 h] at h2; cases h2
  have e1 : a.per = b.per := by
    rcases (show a.per < b.per ∨ a.per = b.per ∨ b.per < a.per by omega) with h | h | h
    · exact absurd (.inl h) n1
    · exact h
    · exact absurd (.inl h) n2
  have e2 : a.yr = b.yr := by
    rcases (show a.yr < b.yr ∨ a.yr = b.yr ∨ b.yr < a.yr by omega) with h | h | h
    · exact absurd (.inr ⟨e1, .inl h⟩) n1
    · exact h
    · exact absurd (.inr ⟨e1.symm, .inl h⟩) n2
  refine ⟨e1, e2, ltS_tri ?_ ?_⟩
  · rw [Bool.eq_false_iff]
    exact fun h => n1 (.inr ⟨e1, .inr ⟨e2, h⟩⟩)
  · rw [Bool.eq_false_iff]
    exact fun h => n2 (.inr ⟨e1.symm, .inr ⟨e2.symm, h⟩⟩)
theorem aheadT_congr {a a' b b' : Tt} (h1 : a.per = a'.per ∧ a.yr = a'.yr ∧ a.nam = a'.nam) (h2 : b.per = b'.per ∧ b.yr = b'.yr ∧ b.nam = b'.nam) : aheadT a b = aheadT a' b' := by
  unfold aheadT
  rw [h1.1, h1.2.1, h1.2.2, h2.1, h2.2.1, h2.2.2]
theorem ltOf_cmpT (x y : Tt) : ltOf cmpT x y = aheadT x y := by
  unfold ltOf
  cases h : aheadT x y
  · exact decide_eq_false (fun h' => by rw [cmpT_lt.1 h'] at h; cases h)
  · exact decide_eq_true (cmpT_lt.2 h)
theorem swoT : SWO (ltOf cmpT) where
  irrefl x := by rw [ltOf_cmpT, aheadT_irrefl]
  trans x y z h1 h2 := by rw [ltOf_cmpT] at *; exact aheadT_trans h1 h2
  ntrans x y z h1 h2 := by
    rw [ltOf_cmpT] at *
    rw [Bool.eq_false_iff]
    intro h
    cases h3 : aheadT y x
    · have e := aheadT_tri h1 h3
      rw [aheadT_congr e ⟨rfl, rfl, rfl⟩] at h
      rw [h] at h2; cases h2
    · have := aheadT_trans h3 h
      rw [this] at h2; cases h2
theorem cmpLaysT (blk off size : Nat) (w : World) : CmpLays Try.prog 30 #[] encT 4 cmpT blk off size w :=
  fun _ _ _ _ x y => compare_any x.per x.yr x.mon y.per y.yr y.mon x.nam y.nam _
theorem sort_enters : ∀ args w, (callFunc 30 args).run Try.prog w = .ok (.enter 30 args) w := enters_of Try.func30 (by kernel_rfl) rfl
theorem isAggT : ∀ w, (isAgg 50).run Try.prog w = .ok true w := fun _ => by kernel_rfl
theorem sizeOfT : ∀ w, (Go.sizeOf 50).run Try.prog w = .ok 4 w := fun _ => by kernel_rfl
theorem encT_one (x : Tt) : ∀ v ∈ encT x, v.oneCell' = true := by
  intro v hv
  simp only [encT, List.mem_cons, List.not_mem_nil, or_false] at hv
  rcases hv with rfl | rfl | rfl | rfl <;> rfl
theorem oat_of_holdsK {w : World} {g : Nat} {d : Array Tt} (hg : g < w.heap.size) (h : HoldsK encT 4 w g 0 d) : OAt w g 0 d.toList := by
  refine ⟨hg, fun j hj => ?_⟩
  have hj' : j < d.size := by simpa using hj
  have e : onth d.toList j = d[j]! := by
    unfold onth
    rw [List.getD_eq_getElem?_getD, Array.getElem?_toList, Array.getElem?_eq_getElem hj', getElem!_pos d j hj']
    rfl
  rw [e, Nat.zero_add]
  have c0 := (h.cell hj' (c := 0) (by omega)).1
  have c1 := (h.cell hj' (c := 1) (by omega)).1
  have c2 := (h.cell hj' (c := 2) (by omega)).1
  have c3 := (h.cell hj' (c := 3) (by omega)).1
  rw [Nat.zero_add] at c0 c1 c2 c3
  exact ⟨c0, c1, c2, c3⟩
theorem below_sorted {B : Nat} {w0 w : World} {g m : Nat} {d : Array Tt} {os : Array Obj} (h : Go.RowKit.Below B w0 w) (hg : B ≤ g) (h0 : B ≤ w0.heap.size) : Go.RowKit.Below B w0 (sortWorldK encT 4 w g 0 m d os) := by
  unfold sortWorldK putRowK
  have h1 := Lib.below_putRow (enc := (id : Value → Value)) (q := m) (d := flatK encT 4 d) h hg
  refine ⟨h1.os, h1.tape, h1.output, Nat.le_trans h1.size (by simp [grow]), fun k hk => ?_⟩
  rw [← h1.block k hk]
  show (_ ++ os)[k]? = _
  rw [Array.getElem?_append_left (Nat.lt_of_lt_of_le (Nat.lt_of_lt_of_le hk h0) h1.size)]
/-- The totals l', in the row of l, that the sort makes of l. -/
def SortIs (w : World) (g : Nat) (l : List Tt) (w' : World) : Prop := ∃ l' : List Tt, l'.Perm l ∧ (∀ i j, i < j → j < l'.length → aheadT (onth l' j) (onth l' i) = false) ∧ OAt w' g 0 l' ∧ ∀ (B : Nat) (w0 : World), B ≤ g → B ≤ w0.heap.size → Go.RowKit.Below B w0 w → Go.RowKit.Below B w0 w'
theorem sort_any (g cap : Nat) (l : List Tt) (w : World) (hH : HoldsK encT 4 w g 0 l.toArray) (hg : g < w.heap.size) (hs : l.length < 4611686018427387904) :
    Calls Try.prog 52 #[.slice (some ⟨g, 0, none⟩) l.length cap, .func (.func 30) #[] #[]] w fun e w' => e = .returned (.tuple #[]) ∧ SortIs w g l w' := by
  have hcon := AnyQ.slices_SortFunc sh_sort 4 isAggT sizeOfT encT (fun _ => rfl) encT_one cmpT swoT 30 #[] g 0 cap l.toArray w sort_enters (cmpLaysT g 0 l.toArray.size w) hH hg (by simpa using hs)
  change Calls Try.prog 52 _ _ _ at hcon
  refine hcon.mono fun e w' ⟨he, d', n, os, hp, hso, hw⟩ => ⟨he, d'.toList, ?_, ?_, ?_, ?_⟩
  · have h1 := hp.1
    have h2 := hp.2.2
    have e1 : d'.extract 0 l.toArray.size = d' := by rw [← h1]; simp
    rw [e1] at h2
    simpa using h2
  · intro i j hij hj
    have h1 := hp.1
    have := hso i j (Nat.zero_le _) hij (by simpa [h1] using hj)
    rw [ltOf_cmpT] at this
    have e : ∀ k, k < d'.size → onth d'.toList k = d'[k]! := fun k hk => by
      unfold onth
      rw [List.getD_eq_getElem?_getD, Array.getElem?_toList, Array.getElem?_eq_getElem hk, getElem!_pos d' k hk]
      rfl
    have hj' : j < d'.size := by simpa using hj
    rw [e i (by omega), e j hj']
    exact this
  · rw [hw]
    refine oat_of_holdsK ?_ (holdsK_sortWorldK encT 4 w g 0 n l.toArray d' os hg hH hp.1)
    exact lt_sortWorldK encT 4 w g 0 n d' os hg
  · intro B w0 hB h0 hb
    rw [hw]
    exact below_sorted hb hB h0
theorem sort_none (cap : Nat) (p : Option Addr) (w : World) :
    Calls Try.prog 52 #[.slice p 0 cap, .func (.func 30) #[] #[]] w fun e w' => e = .returned (.tuple #[]) ∧ w' = w := by
  have hcon := AnyF.slices_SortFunc_none { sh_sort with } p cap (.func (.func 30) #[] #[]) w
  exact hcon
end Go.Proofs.Ytfamnlaignjhkaa
