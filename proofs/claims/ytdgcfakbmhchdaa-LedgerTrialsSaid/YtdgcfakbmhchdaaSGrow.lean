/-
  Lists of amounts of the call's own, that others are appended to; amounts sorted by their names: the library's sort.
-/
import Derived.Test.YtdgcfakbmhchdaaSAm
import Derived.Test.YtdgcfakbmhchdaaSShelf
import Derived.Lib.OwnBridge
import Derived.Sort.Grow
import Derived.Maps.AppendAt
import Derived.Deep.RegionLaw
import Derived.Laws.IdiomCopy
import Derived.Laws.MakeOwn
import Derived.OwnWalk
import Derived.Lib.Walk
import Derived.Lib.SliceRun
namespace Go.Proofs.Ytdgcfakbmhchdaa
open Go.RowKit Go.Sort Go.Shelf

instance : Inhabited Am := ⟨⟨⟨#[]⟩, 0⟩⟩
def encA (x : Am) : List Value := [.string x.name, .int .i64 x.mon]
def cellsL : List Am → List Value
  | [] => []
  | r :: l => encA r ++ cellsL l
theorem cellsL_length : ∀ l : List Am, (cellsL l).length = l.length * 2
  | [] => rfl
  | r :: l => by
    rw [cellsL, List.length_append, cellsL_length l, List.length_cons]
    simp [encA]
    omega
theorem cellsL_append : ∀ l m : List Am, cellsL (l ++ m) = cellsL l ++ cellsL m
  | [], _ => rfl
  | r :: l, m => by rw [List.cons_append, cellsL, cellsL, cellsL_append l m, List.append_assoc]
theorem anth_cons (r : Am) (l : List Am) (k : Nat) : anth (r :: l) (k + 1) = anth l k := rfl
theorem anth_zero (r : Am) (l : List Am) : anth (r :: l) 0 = r := rfl
theorem cellsL_get : ∀ (l : List Am) (k c : Nat), k < l.length → c < 2 → (cellsL l)[k * 2 + c]? = (encA (anth l k))[c]?
  | [], k, c, hk, _ => absurd hk (by simp)
  | r :: l, 0, c, _, hc => by
    rw [cellsL, anth_zero, List.getElem?_append_left (by simp [encA]; omega), Nat.zero_mul, Nat.zero_add]
  | r :: l, k + 1, c, hk, hc => by
    rw [cellsL, anth_cons, List.getElem?_append_right (by simp [encA]; omega), ← cellsL_get l k c (by simpa using hk) hc]
    congr 1
    simp [encA]
    omega
theorem encA_one (x : Am) : ∀ v ∈ encA x, v.oneCell' = true := by
  intro v hv
  simp only [encA, List.mem_cons, List.not_mem_nil, or_false] at hv
  rcases hv with rfl | rfl <;> rfl
theorem cellsL_one : ∀ (l : List Am) (u : Value), u ∈ cellsL l → u.oneCell' = true
  | [], u, h => by simp [cellsL] at h
  | r :: l, u, h => by
    rw [cellsL, List.mem_append] at h
    rcases h with h | h
    · exact encA_one r u h
    · exact cellsL_one l u h
theorem holds_of_aat {w : World} {b off : Nat} {l : List Am} (h : AAt w b off l) : ∀ j u, (cellsL l)[j]? = some u → w.cell? ⟨b, off + j, none⟩ = some u := by
  intro j u hu
  have hj : j < l.length * 2 := by
    rw [← cellsL_length]
    by_cases h' : j < (cellsL l).length
    · exact h'
    · rw [List.getElem?_eq_none (by omega)] at hu; cases hu
  have hk : j / 2 < l.length := by omega
  obtain ⟨h0, h1⟩ := h.2 (j / 2) hk
  have hje : j / 2 * 2 + j % 2 = j := by omega
  have hg := cellsL_get l (j / 2) (j % 2) hk (by omega)
  rw [hje, hu] at hg
  have hc : j % 2 = 0 ∨ j % 2 = 1 := by omega
  rcases hc with hc | hc <;> rw [hc] at hg hje <;> simp only [encA, List.getElem?_cons_zero, List.getElem?_cons_succ, Option.some.injEq] at hg <;> subst hg
  · rw [show off + j = off + j / 2 * 2 from by omega]; exact h0
  · rw [show off + j = off + j / 2 * 2 + 1 from by omega]; exact h1
theorem info_am : (Try.prog.info? 56).map (fun i => (i.zero, i.size, i.bytes)) = some (some (.agg #[.string ⟨#[]⟩, .int .i64 0]), 2, 24) := by kernel_rfl
/-- The slice v, nil or of the call's own from block B on, holds the amounts l. -/
def GrowA (w : World) (B : Nat) (v : Value) (l : List Am) : Prop := w.ownsRow B 56 2 v l.length (cellsL l)
theorem GrowA.nil (w : World) (B : Nat) : GrowA w B (.slice none 0 0) [] := World.ownsRow_nil _ _ _ _
theorem GrowA.alloc {w : World} {B : Nat} {v : Value} {l : List Am} (h : GrowA w B v l) (o : Obj) : GrowA (w.alloc o) B v l := World.ownsRow.alloc h o
theorem GrowA.lt {w : World} {B : Nat} {v : Value} {l : List Am} (h : GrowA w B v l) : ∀ k, v.ownBlock = some k → B ≤ k ∧ k < w.heap.size := World.ownsRow.lt h
theorem GrowA.kept {w w' : World} {B : Nat} {v : Value} {l : List Am} {row : Option Nat} (h : GrowA w B v l) (hg : w.grownBy w' row) (hr : ∀ r, row = some r → r < B) : GrowA w' B v l := by
  refine World.ownsRow.kept h hg ?_
  cases hv : v.ownBlock with
  | none => exact .inl rfl
  | some k =>
    refine .inr (fun e => ?_)
    have := hr k e.symm
    have := (h.lt k hv).1
    omega
theorem GrowA.below {w w' : World} {B : Nat} {v : Value} {l : List Am} (h : GrowA w B v l) (hb : Go.RowKit.Below w.heap.size w w') : GrowA w' B v l := by
  refine World.ownsRow.kept (row := none) h ⟨hb.os, hb.tape, hb.output, hb.size, fun k hk _ => hb.block k hk⟩ ?_
  cases v.ownBlock with
  | none => exact .inl rfl
  | some k => exact .inr (Option.some_ne_none k)
theorem GrowA.form {w : World} {B : Nat} {v : Value} {l : List Am} (h : GrowA w B v l) : (v = .slice none 0 0 ∧ l = []) ∨ ∃ g c, v = .slice (some ⟨g, 0, none⟩) l.length c ∧ B ≤ g ∧ AAt w g 0 l ∧ HoldsK encA 2 w g 0 l.toArray := by
  have hh := h
  rcases h.2 with ⟨h1, h2⟩ | ⟨g, c, cur, h1, h2, hgc, _⟩
  · exact .inl ⟨h1, List.eq_nil_of_length_eq_zero h2⟩
  · subst h1
    have key : ∀ j, j < l.length → ∀ c, c < 2 → ∀ u, (encA (anth l j))[c]? = some u → w.cell? ⟨g, j * 2 + c, none⟩ = some u := fun j hj c hc u hu => by
      have := World.ownsRow.cells hh (g := g) rfl (j * 2 + c) u ((cellsL_get l j c hj hc).trans hu)
      rwa [Addr.add_lit, Nat.zero_add] at this
    refine .inr ⟨g, c, rfl, h2, ⟨(GrowA.lt hh g rfl).2, fun j hj => ?_⟩, ?_⟩
    · rw [Nat.zero_add]
      exact ⟨key j hj 0 (by omega) _ rfl, key j hj 1 (by omega) _ rfl⟩
    · intro t ht
      have ht' : t < l.length * 2 := by simpa using ht
      have hk : t / 2 < l.length := by omega
      refine ⟨?_, by simp [World.frozen?, hgc]⟩
      rw [get_flatK _ _ _ _ (by simpa using ht')]
      have e : l.toArray[t / 2]! = anth l (t / 2) := by
        rw [getElem!_pos l.toArray (t / 2) (by simpa using hk)]
        simp [anth, List.getD_eq_getElem?_getD, hk]
      rw [e]
      have := key (t / 2) hk (t % 2) (by omega) ((encA (anth l (t / 2)))[t % 2]!) (by
        have hl : t % 2 < (encA (anth l (t / 2))).length := by simp [encA]; omega
        rw [List.getElem?_eq_getElem hl, getElem!_pos (encA (anth l (t / 2))) (t % 2) hl])
      rw [show t / 2 * 2 + t % 2 = t by omega] at this
      simpa using this
theorem GrowA.slice {w : World} {B : Nat} {v : Value} {l : List Am} (h : GrowA w B v l) : ∃ x c, v = .slice x l.length c ∧ CameA w x l := by
  rcases h.form with ⟨h1, h2⟩ | ⟨g, c, h1, _, h3, _⟩
  · subst h2; exact ⟨none, 0, h1, .inl rfl⟩
  · exact ⟨_, c, h1, .inr ⟨g, 0, rfl, h3⟩⟩
theorem run_app_ams (w : World) (ty : TypeId) (B : Nat) (v : Value) (l : List Am) (hown : GrowA w B v l) (b off m c : Nat) (news : List Am) (hsrc : AAt w b off news) (hm : news.length = m)
    (hb : (l.length + m) * 24 ≤ 140737488355328) (hB : B ≤ w.heap.size) :
    ∃ v' w', (Builtin.append_ #[49, 49] ty #[v, .slice (some ⟨b, off, none⟩) m c]).run Try.prog w = .ok v' w' ∧ GrowA w' B v' (l ++ news) ∧ w.grownBy w' v.ownBlock ∧ Go.RowKit.Below B w w' := by
  obtain ⟨i0, hi, hz0, hz1, hz2⟩ := info_parts info_am
  have hnews : ∀ j u, (cellsL news)[j]? = some u → w.cell? ((⟨b, off, none⟩ : Addr).add j) = some u := by
    intro j u hu
    rw [Addr.add_lit]
    exact holds_of_aat hsrc j u hu
  obtain ⟨v', w', hr, h2, h3, _, h5⟩ := run_append_own_at (P := Try.prog) w B 49 ty 56 i0 _ 2 24 Try.underlying49 hi hz0 hz1 hz2 rfl (by decide) v l.length (cellsL l) hown ⟨b, off, none⟩ m c (cellsL news) (by rw [cellsL_length, hm]) hnews (cellsL_one news) (by unfold maxLen; omega) hb hB
  refine ⟨v', w', hr, ?_, h3, (Below.refl B w).grown h3 hB fun k hk => (GrowA.lt hown k hk).1⟩
  unfold GrowA
  rw [List.length_append, hm, cellsL_append]
  exact h2
theorem wpList_app_ams {ops : Array Oper} {rest : List Oper} {o : Oper} {a : Act} {Q : Exit → Act → World → Prop} (w : World) (hgd : o.guard = none) (s x : Operand)
    (ho : o.op = .call { callee := .builtin .append, args := #[s, x], argTypes := #[49, 49] })
    (B : Nat) (v : Value) (l : List Am) (hs : a.eval s = v) (hown : GrowA w B v l) (b off m c : Nat) (news : List Am) (hx : a.eval x = .slice (some ⟨b, off, none⟩) m c) (hsrc : AAt w b off news) (hm : news.length = m)
    (hb : (l.length + m) * 24 ≤ 140737488355328) (hB : B ≤ w.heap.size)
    (h : ∀ v' w', GrowA w' B v' (l ++ news) → w.grownBy w' v.ownBlock → Go.RowKit.Below B w w' → wpList Try.prog ops Q rest (a.put o.dst v') w') :
    wpList Try.prog ops Q (o :: rest) a w := by
  obtain ⟨v', w', hr, h2, h3, h4⟩ := run_app_ams w o.type B v l hown b off m c news hsrc hm hb hB
  refine wpList_plain hgd fun _ hK => ?_
  unfold Oper.wp execOp
  simp only [ho, resolve, invoke, builtin, Sem.run_bind, Sem.run_pure, Result.andThen_ok, List.map_toArray, List.map_cons, List.map_nil, hs, hx, hr]
  exact hK _ _ (h v' w' h2 h3 h4)
def ltS (a b : ByteArray) : Bool := Op.bytesLess a.toList b.toList
def ciS (a b : ByteArray) : Int := if ltS a b = true then -1 else if (a.toList == b.toList) = true then 0 else 1
theorem isNaNS (x : ByteArray) (w : World) : Calls Try.prog 58 #[.string x] w fun e w' => e = .returned (.bool false) ∧ w' = w := by
  go_enter Try.func58, Try.ntmps58
  go_wp2_with fail
  go_ret
  exact ⟨kret_bool (by simp), rfl⟩
set_option maxHeartbeats 1000000 in
theorem compareS (x y : ByteArray) (w : World) : Calls Try.prog 51 #[.string x, .string y] w fun e w' => e = .returned (.int .i64 (ciS x y)) ∧ w' = w := by
  cases h1 : ltS x y
  · cases h2 : (x.toList == y.toList)
    · have H : Hid (ciS x y = 1) := Lib.hid (by unfold ciS; rw [h1, h2]; rfl)
      unfold ltS at h1
      go_enter Try.func51, Try.ntmps51
      go_wp2_with (first | (go_at_call 58; refine (isNaNS _ _).mono ?_; rintro e w' ⟨rfl, h'⟩; subst w'))
      go_ret
      exact ⟨kret_int H.out.symm, rfl⟩
    · have H : Hid (ciS x y = 0) := Lib.hid (by unfold ciS; rw [h1, h2]; rfl)
      unfold ltS at h1
      go_enter Try.func51, Try.ntmps51
      go_wp2_with (first | (go_at_call 58; refine (isNaNS _ _).mono ?_; rintro e w' ⟨rfl, h'⟩; subst w'))
      go_ret
      exact ⟨kret_int H.out.symm, rfl⟩
  · have H : Hid (ciS x y = -1) := Lib.hid (by unfold ciS; rw [h1]; rfl)
    unfold ltS at h1
    go_enter Try.func51, Try.ntmps51
    go_wp2_with (first | (go_at_call 58; refine (isNaNS _ _).mono ?_; rintro e w' ⟨rfl, h'⟩; subst w'))
    go_ret
    exact ⟨kret_int H.out.symm, rfl⟩
def cmpA (a b : Am) : Int := ciS a.name b.name
set_option maxHeartbeats 1000000 in
theorem byName_any (m1 m2 : Int) (s1 s2 : ByteArray) (w : World) :
    Calls Try.prog 50 #[.agg #[.string s1, .int .i64 m1], .agg #[.string s2, .int .i64 m2]] w fun e w' => e = .returned (.int .i64 (cmpA ⟨s1, m1⟩ ⟨s2, m2⟩)) ∧ ∃ q os, w' = grow (w.drewN q) os := by
  have HE : Hid (cmpA ⟨s1, m1⟩ ⟨s2, m2⟩ = ciS s1 s2) := rfl
  have HG : Hid (∃ q os, (w.alloc (.cells #[.string s1, .int .i64 m1] 56)).alloc (.cells #[.string s2, .int .i64 m2] 56) = grow (w.drewN q) os) := ⟨0, _, by rw [alloc_eq_grow, alloc_eq_grow, grow_grow]; rfl⟩
  go_enter Try.func50, Try.ntmps50
  go_wp2_with (first | (go_at_call 51; refine (compareS _ _ _).mono ?_; rintro e w' ⟨rfl, h'⟩; subst w'))
  go_ret
  exact ⟨kret_int HE.out.symm, HG.out⟩
theorem bytesLessL : ∀ (x y : List UInt8), Op.bytesLess x y = decide (x < y)
  | [], [] => by simp [Op.bytesLess]
  | _ :: _, [] => by simp [Op.bytesLess]
  | [], _ :: _ => by simp [Op.bytesLess]
  | a :: x, b :: y => by
    rw [Op.bytesLess, bytesLessL x y]
    simp only [List.cons_lt_cons_iff]
    by_cases h1 : a < b <;> by_cases h2 : a = b <;> by_cases h3 : x < y <;> simp [h1, h2, h3]
theorem ltS_iff {a b : ByteArray} : ltS a b = true ↔ a.toList < b.toList := by unfold ltS; rw [bytesLessL]; simp
theorem ltS_irrefl (a : ByteArray) : ltS a a = false := by
  rw [Bool.eq_false_iff]
  intro h
  exact List.lt_irrefl _ (ltS_iff.1 h)
theorem ltS_trans {a b c : ByteArray} (h1 : ltS a b = true) (h2 : ltS b c = true) : ltS a c = true := ltS_iff.2 (List.lt_trans (ltS_iff.1 h1) (ltS_iff.1 h2))
theorem ltS_tri {a b : ByteArray} (h1 : ltS a b = false) (h2 : ltS b a = false) : a = b := by
  have e1 : ¬ a.toList < b.toList := fun h => by rw [ltS_iff.2 h] at h1; cases h1
  have e2 : ¬ b.toList < a.toList := fun h => by rw [ltS_iff.2 h] at h2; cases h2
  have e : a.toList = b.toList := List.le_antisymm (List.not_lt.1 e2) (List.not_lt.1 e1)
  rw [ByteArray.toList_eq, ByteArray.toList_eq] at e
  cases a
  cases b
  simp at e
  rw [e]
theorem ltOf_cmpA (x y : Am) : ltOf cmpA x y = ltS x.name y.name := by
  unfold ltOf cmpA ciS
  cases h : ltS x.name y.name
  · simp
    split <;> decide
  · simp
theorem swoA : SWO (ltOf cmpA) where
  irrefl x := by rw [ltOf_cmpA, ltS_irrefl]
  trans x y z h1 h2 := by rw [ltOf_cmpA] at *; exact ltS_trans h1 h2
  ntrans x y z h1 h2 := by
    rw [ltOf_cmpA] at *
    rw [Bool.eq_false_iff]
    intro h
    cases h3 : ltS y.name x.name
    · rw [ltS_tri h1 h3] at h
      rw [h] at h2; cases h2
    · have := ltS_trans h3 h
      rw [this] at h2; cases h2
theorem cmpLaysA (blk off size : Nat) (w : World) : CmpLays Try.prog 50 #[] encA 2 cmpA blk off size w :=
  fun _ _ _ _ x y => byName_any x.mon y.mon x.name y.name _
theorem sort_enters : ∀ args w, (callFunc 50 args).run Try.prog w = .ok (.enter 50 args) w := enters_of Try.func50 (by kernel_rfl) rfl
theorem isAggA : ∀ w, (isAgg 56).run Try.prog w = .ok true w := fun _ => by kernel_rfl
theorem sizeOfA : ∀ w, (Go.sizeOf 56).run Try.prog w = .ok 2 w := fun _ => by kernel_rfl
theorem aat_of_holdsK {w : World} {g : Nat} {d : Array Am} (hg : g < w.heap.size) (h : HoldsK encA 2 w g 0 d) : AAt w g 0 d.toList := by
  refine ⟨hg, fun j hj => ?_⟩
  have hj' : j < d.size := by simpa using hj
  have e : anth d.toList j = d[j]! := by
    unfold anth
    rw [List.getD_eq_getElem?_getD, Array.getElem?_toList, Array.getElem?_eq_getElem hj', getElem!_pos d j hj']
    rfl
  rw [e, Nat.zero_add]
  have c0 := (h.cell hj' (c := 0) (by omega)).1
  have c1 := (h.cell hj' (c := 1) (by omega)).1
  rw [Nat.zero_add] at c0 c1
  exact ⟨c0, c1⟩
theorem below_sorted {B : Nat} {w0 w : World} {g m : Nat} {d : Array Am} {os : Array Obj} (h : Go.RowKit.Below B w0 w) (hg : B ≤ g) (h0 : B ≤ w0.heap.size) : Go.RowKit.Below B w0 (sortWorldK encA 2 w g 0 m d os) := by
  unfold sortWorldK putRowK
  have h1 := Lib.below_putRow (enc := (id : Value → Value)) (q := m) (d := flatK encA 2 d) h hg
  refine ⟨h1.os, h1.tape, h1.output, Nat.le_trans h1.size (by simp [grow]), fun k hk => ?_⟩
  rw [← h1.block k hk]
  show (_ ++ os)[k]? = _
  rw [Array.getElem?_append_left (Nat.lt_of_lt_of_le (Nat.lt_of_lt_of_le hk h0) h1.size)]
/-- The amounts l', in the row of l, that the sort makes of l. -/
def SortIs (w : World) (g : Nat) (l : List Am) (w' : World) : Prop := ∃ l' : List Am, l'.Perm l ∧ (∀ i j, i < j → j < l'.length → ltS (anth l' j).name (anth l' i).name = false) ∧ AAt w' g 0 l' ∧ ∀ (B : Nat) (w0 : World), B ≤ g → B ≤ w0.heap.size → Go.RowKit.Below B w0 w → Go.RowKit.Below B w0 w'
theorem sort_any (g cap : Nat) (l : List Am) (w : World) (hH : HoldsK encA 2 w g 0 l.toArray) (hg : g < w.heap.size) (hs : l.length < 4611686018427387904) :
    Calls Try.prog 49 #[.slice (some ⟨g, 0, none⟩) l.length cap, .func (.func 50) #[] #[]] w fun e w' => e = .returned (.tuple #[]) ∧ SortIs w g l w' := by
  have hcon := AnyQ.slices_SortFunc sh_sort 2 isAggA sizeOfA encA (fun _ => rfl) encA_one cmpA swoA 50 #[] g 0 cap l.toArray w sort_enters (cmpLaysA g 0 l.toArray.size w) hH hg (by simpa using hs)
  change Calls Try.prog 49 _ _ _ at hcon
  refine hcon.mono fun e w' ⟨he, d', n, os, hp, hso, hw⟩ => ⟨he, d'.toList, ?_, ?_, ?_, ?_⟩
  · have h1 := hp.1
    have h2 := hp.2.2
    have e1 : d'.extract 0 l.toArray.size = d' := by rw [← h1]; simp
    rw [e1] at h2
    simpa using h2
  · intro i j hij hj
    have h1 := hp.1
    have := hso i j (Nat.zero_le _) hij (by simpa [h1] using hj)
    rw [ltOf_cmpA] at this
    have e : ∀ k, k < d'.size → anth d'.toList k = d'[k]! := fun k hk => by
      unfold anth
      rw [List.getD_eq_getElem?_getD, Array.getElem?_toList, Array.getElem?_eq_getElem hk, getElem!_pos d' k hk]
      rfl
    have hj' : j < d'.size := by simpa using hj
    rw [e i (by omega), e j hj']
    exact this
  · rw [hw]
    refine aat_of_holdsK ?_ (holdsK_sortWorldK encA 2 w g 0 n l.toArray d' os hg hH hp.1)
    exact lt_sortWorldK encA 2 w g 0 n d' os hg
  · intro B w0 hB h0 hb
    rw [hw]
    exact below_sorted hb hB h0
theorem sort_none (cap : Nat) (p : Option Addr) (w : World) :
    Calls Try.prog 49 #[.slice p 0 cap, .func (.func 50) #[] #[]] w fun e w' => e = .returned (.tuple #[]) ∧ w' = w := by
  have hcon := AnyF.slices_SortFunc_none { sh_sort with } p cap (.func (.func 50) #[] #[]) w
  exact hcon
end Go.Proofs.Ytdgcfakbmhchdaa
