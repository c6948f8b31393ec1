/-
  Promise M3: somebody's totals of a year, as amounts: the walks of Of and of the reference's TotalsOf; two lists of amounts that are alike.
-/
import Derived.Test.YtfamnlaignjhkaaOSum
namespace Go.Proofs.Ytfamnlaignjhkaa
open Go.RowKit Go.Sort

/-- An amount. -/
structure Ao where
  nam : ByteArray
  mon : Int
def aonth (l : List Ao) (j : Nat) : Ao := l.getD j ⟨⟨#[]⟩, 0⟩
def AoIs (w : World) (b o : Nat) (r : Ao) : Prop := w.cell? ⟨b, o, none⟩ = some (.string r.nam) ∧ w.cell? ⟨b, o + 1, none⟩ = some (.int .i64 r.mon)
theorem AoIs.below {B : Nat} {w w' : World} {b o : Nat} {r : Ao} (h : AoIs w b o r) (hb : Go.RowKit.Below B w w') (hB : b < B) : AoIs w' b o r :=
  ⟨(hb.cell (p := ⟨b, o, none⟩) hB).trans h.1, (hb.cell (p := ⟨b, o + 1, none⟩) hB).trans h.2⟩
def AoAt (w : World) (b off : Nat) (l : List Ao) : Prop := b < w.heap.size ∧ ∀ j, j < l.length → AoIs w b (off + j * 2) (aonth l j)
def CameAo (w : World) (a : Option Addr) (l : List Ao) : Prop := l.length = 0 ∨ ∃ b off, a = some ⟨b, off, none⟩ ∧ AoAt w b off l
theorem CameAo.below {w w' : World} {a : Option Addr} {l : List Ao} (h : CameAo w a l) (hb : Go.RowKit.Below w.heap.size w w') : CameAo w' a l := by
  rcases h with h | ⟨b, off, rfl, h⟩
  · exact .inl h
  · exact .inr ⟨b, off, rfl, Nat.lt_of_lt_of_le h.1 hb.size, fun j hj => (h.2 j hj).below hb h.1⟩
theorem CameAo.open {w : World} {a : Option Addr} {l : List Ao} (h : CameAo w a l) {n : Nat} (hn : l.length = n) (h0 : 0 < n) : ∃ b off, a = some ⟨b, off, none⟩ ∧ ∀ w', Go.RowKit.Below w.heap.size w w' → ∀ k, k < n → AoIs w' b (off + k * 2) (aonth l k) := by
  rcases h with h | ⟨b, off, rfl, h⟩
  · omega
  · exact ⟨b, off, rfl, fun w' hb k hk => AoIs.below (h.2 k (by omega)) hb h.1⟩
def encA (x : Ao) : List Value := [.string x.nam, .int .i64 x.mon]
def cellsA : List Ao → List Value
  | [] => []
  | r :: l => encA r ++ cellsA l
theorem cellsA_length : ∀ l : List Ao, (cellsA l).length = l.length * 2
  | [] => rfl
  | r :: l => by
    rw [cellsA, List.length_append, cellsA_length l, List.length_cons]
    simp [encA]
    omega
theorem cellsA_append : ∀ l m : List Ao, cellsA (l ++ m) = cellsA l ++ cellsA m
  | [], _ => rfl
  | r :: l, m => by rw [List.cons_append, cellsA, cellsA, cellsA_append l m, List.append_assoc]
theorem cellsA_get : ∀ (l : List Ao) (k c : Nat), k < l.length → c < 2 → (cellsA l)[k * 2 + c]? = (encA (aonth l k))[c]?
  | [], k, c, hk, _ => absurd hk (by simp)
  | r :: l, 0, c, _, hc => by
    rw [cellsA, show aonth (r :: l) 0 = r from rfl, List.getElem?_append_left (by simp [encA]; omega), Nat.zero_mul, Nat.zero_add]
  | r :: l, k + 1, c, hk, hc => by
    rw [cellsA, show aonth (r :: l) (k + 1) = aonth l k from rfl, List.getElem?_append_right (by simp [encA]; omega), ← cellsA_get l k c (by simpa using hk) hc]
    congr 1
    simp [encA]
    omega
theorem ao_info : (Try.prog.info? 60).map (fun i => (i.zero, i.size, i.bytes)) = some (some (.agg #[.string ⟨#[]⟩, .int .i64 0]), 2, 24) := by kernel_rfl
/-- The slice v, nil or of the call's own from block B on, holds the amounts l. -/
def GrowA (w : World) (B : Nat) (v : Value) (l : List Ao) : Prop := w.ownsRow B 60 2 v l.length (cellsA l)
theorem GrowA.nil (w : World) (B : Nat) : GrowA w B (.slice none 0 0) [] := World.ownsRow_nil _ _ _ _
theorem GrowA.alloc {w : World} {B : Nat} {v : Value} {l : List Ao} (h : GrowA w B v l) (o : Obj) : GrowA (w.alloc o) B v l := World.ownsRow.alloc h o
theorem GrowA.lt {w : World} {B : Nat} {v : Value} {l : List Ao} (h : GrowA w B v l) : ∀ k, v.ownBlock = some k → B ≤ k ∧ k < w.heap.size := World.ownsRow.lt h
theorem GrowA.slice {w : World} {B : Nat} {v : Value} {l : List Ao} (h : GrowA w B v l) : ∃ x c, v = .slice x l.length c ∧ CameAo w x l := by
  have hh := h
  rcases h.2 with ⟨h1, h2⟩ | ⟨g, c, cur, h1, h2, hgc, _⟩
  · obtain rfl := List.eq_nil_of_length_eq_zero h2
    exact ⟨none, 0, h1, .inl rfl⟩
  · subst h1
    have key : ∀ j, j < l.length → ∀ c, c < 2 → ∀ u, (encA (aonth l j))[c]? = some u → w.cell? ⟨g, j * 2 + c, none⟩ = some u := fun j hj c hc u hu => by
      have := World.ownsRow.cells hh (g := g) rfl (j * 2 + c) u ((cellsA_get l j c hj hc).trans hu)
      rwa [Addr.add_lit, Nat.zero_add] at this
    refine ⟨_, c, rfl, .inr ⟨g, 0, rfl, (GrowA.lt hh g rfl).2, fun j hj => ?_⟩⟩
    rw [Nat.zero_add]
    exact ⟨key j hj 0 (by omega) _ rfl, key j hj 1 (by omega) _ rfl⟩
theorem run_app_ao (w : World) (ty : TypeId) (B : Nat) (v : Value) (l : List Ao) (hown : GrowA w B v l) (b c : Nat) (s : ByteArray) (m : Int) (h0 : w.cell? ⟨b, 0, none⟩ = some (.string s)) (h1 : w.cell? ⟨b, 1, none⟩ = some (.int .i64 m))
    (hb : l.length ≤ 1000) (hB : B ≤ w.heap.size) :
    ∃ v' w', (Builtin.append_ #[34, 34] ty #[v, .slice (some ⟨b, 0, none⟩) 1 c]).run Try.prog w = .ok v' w' ∧ GrowA w' B v' (l ++ [⟨s, m⟩]) ∧ Go.RowKit.Below B w w' := by
  obtain ⟨i0, hi, hz0, hz1, hz2⟩ := info_parts ao_info
  have hnews : ∀ j u, (encA ⟨s, m⟩)[j]? = some u → w.cell? ((⟨b, 0, none⟩ : Addr).add j) = some u := by
    intro j u hu
    rw [Addr.add_lit, Nat.zero_add]
    match j with
    | 0 => simp [encA] at hu; subst hu; exact h0
    | 1 => simp [encA] at hu; subst hu; exact h1
    | j + 2 => simp [encA] at hu
  obtain ⟨v', w', hr, h2, h3, _, h5⟩ := run_append_own_at (P := Try.prog) w B 34 ty 60 i0 _ 2 24 Try.underlying34 hi hz0 hz1 hz2 rfl (by decide) v l.length (cellsA l) hown ⟨b, 0, none⟩ 1 c (encA ⟨s, m⟩) rfl hnews (by simp [encA, Value.oneCell']) (by unfold maxLen; omega) (by omega) hB
  refine ⟨v', w', hr, ?_, (Below.refl B w).grown h3 hB fun k hk => (GrowA.lt hown k hk).1⟩
  unfold GrowA
  rw [List.length_append, cellsA_append]
  simpa [cellsA] using h2
theorem wpList_app_ao {ops : Array Oper} {rest : List Oper} {o : Oper} {a : Act} {Q : Exit → Act → World → Prop} (w : World) (hgd : o.guard = none) (s x : Operand)
    (ho : o.op = .call { callee := .builtin .append, args := #[s, x], argTypes := #[34, 34] })
    (B : Nat) (v : Value) (l : List Ao) (hs : a.eval s = v) (hown : GrowA w B v l) (b c : Nat) (nm : ByteArray) (m : Int) (hx : a.eval x = .slice (some ⟨b, 0, none⟩) 1 c) (h0 : w.cell? ⟨b, 0, none⟩ = some (.string nm)) (h1 : w.cell? ⟨b, 1, none⟩ = some (.int .i64 m))
    (hb : l.length ≤ 1000) (hB : B ≤ w.heap.size)
    (h : ∀ v' w', GrowA w' B v' (l ++ [⟨nm, m⟩]) → Go.RowKit.Below B w w' → wpList Try.prog ops Q rest (a.put o.dst v') w') :
    wpList Try.prog ops Q (o :: rest) a w := by
  obtain ⟨v', w', hr, h2, h3⟩ := run_app_ao w o.type B v l hown b c nm m h0 h1 hb hB
  refine wpList_plain hgd fun _ hK => ?_
  unfold Oper.wp execOp
  simp only [ho, resolve, invoke, builtin, Sem.run_bind, Sem.run_pure, Result.andThen_ok, List.map_toArray, List.map_cons, List.map_nil, hs, hx, hr]
  exact hK _ _ (h v' w' h2 h3)
theorem step_app_ao {ops : Array Oper} {o : Oper} {a : Act} {K : Act → World → Prop} {Q : Exit → Act → World → Prop} {E : Prop} (w : World) (hgd : o.guard = none) (s x : Operand)
    (ho : o.op = .call { callee := .builtin .append, args := #[s, x], argTypes := #[34, 34] })
    (B : Nat) (v : Value) (l : List Ao) (hs : a.eval s = v) (hown : GrowA w B v l) (b c : Nat) (nm : ByteArray) (m : Int) (hx : a.eval x = .slice (some ⟨b, 0, none⟩) 1 c) (h0 : w.cell? ⟨b, 0, none⟩ = some (.string nm)) (h1 : w.cell? ⟨b, 1, none⟩ = some (.int .i64 m))
    (hb : l.length ≤ 1000) (hB : B ≤ w.heap.size)
    (h : ∀ v' w', GrowA w' B v' (l ++ [⟨nm, m⟩]) → Go.RowKit.Below B w w' → K (a.put o.dst v') w') :
    if Region.wanted o (yielded ops a.tmps) = true then Oper.wp Try.prog o a w K Q else E := by
  have hw : Region.wanted o (yielded ops a.tmps) = true := by simp [Region.wanted, hgd]
  rw [if_pos hw]
  obtain ⟨v', w', hr, h2, h3⟩ := run_app_ao w o.type B v l hown b c nm m h0 h1 hb hB
  unfold Oper.wp execOp
  simp only [ho, resolve, invoke, builtin, Sem.run_bind, Sem.run_pure, Result.andThen_ok, List.map_toArray, List.map_cons, List.map_nil, hs, hx, hr]
  exact h v' w' h2 h3
/-- Is it somebody's, of a year? -/
def pyB (p y : Int) (t : Tt) : Bool := (t.per == p) && (t.yr == y)
def ofL (p y : Int) (l : List Tt) : List Ao := (l.filter (pyB p y)).map fun t => ⟨t.nam, t.mon⟩
theorem ofL_step {p y : Int} {l : List Tt} {k : Nat} (hk : k < l.length) : ofL p y (l.take (k + 1)) = ofL p y (l.take k) ++ (if pyB p y (onth l k) = true then [⟨(onth l k).nam, (onth l k).mon⟩] else []) := by
  unfold ofL
  rw [otake_snoc hk, List.filter_append, List.map_append]
  congr 1
  cases h : pyB p y (onth l k) <;> simp [List.filter, h]
theorem ofL_len (p y : Int) (l : List Tt) : (ofL p y l).length ≤ l.length := by
  unfold ofL
  rw [List.length_map]
  exact List.length_filter_le _ _
theorem aval {k : IntKind} {a b : Int} (h : a = b) : Value.int k a = Value.int k b := by rw [h]
end Go.Proofs.Ytfamnlaignjhkaa
