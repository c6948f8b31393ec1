/-
  Promise K3: the walk of the reference's SplitHours, minute by minute.
-/
import Derived.Test.YtikkeidapgmcnaaLHoursWhole
import Derived.ArgAppend
import Derived.Maps.AppendAt
import Derived.Deep.RegionLaw
namespace Go.Proofs.Ytikkeidapgmcnaa
open Go.RowKit

def GrowI (w : World) (B : Nat) (v : Value) (l : List Int) : Prop := w.ownsRow B 3 1 v l.length (l.map (Value.int .i64))
theorem GrowI.lt {w : World} {B : Nat} {v : Value} {l : List Int} (h : GrowI w B v l) : ∀ k, v.ownBlock = some k → B ≤ k ∧ k < w.heap.size := World.ownsRow.lt h
theorem GrowI.nil (w : World) (B : Nat) : GrowI w B (.slice none 0 0) [] := World.ownsRow_nil _ _ _ _
theorem GrowI.form {w : World} {B : Nat} {v : Value} {l : List Int} (h : GrowI w B v l) : ∃ x c, v = .slice x l.length c ∧ Came w x l := by
  have hh := h
  rcases h.2 with ⟨h1, h2⟩ | ⟨g, c, cur, h1, h2, _⟩
  · exact ⟨none, 0, by rw [h1, h2], .inl h2⟩
  · subst h1
    refine ⟨_, c, rfl, .inr ⟨g, 0, rfl, (GrowI.lt hh g rfl).2, fun j hj => ?_⟩⟩
    have := World.ownsRow.cells hh (g := g) rfl j (.int .i64 (nth l j)) (by simp [nth, List.getD_eq_getElem?_getD, hj])
    rwa [Addr.add_lit] at this
/-- Two rows of the call's own, apart from each other. -/
def Two (w : World) (B : Nat) (u : Value) (L : List Int) (v : Value) (M : List Int) : Prop := GrowI w B u L ∧ GrowI w B v M ∧ (u.ownBlock = none ∨ v.ownBlock = none ∨ u.ownBlock ≠ v.ownBlock)
theorem Two.symm {w : World} {B : Nat} {u v : Value} {L M : List Int} (h : Two w B u L v M) : Two w B v M u L := by
  refine ⟨h.2.1, h.1, ?_⟩
  rcases h.2.2 with h | h | h
  · exact .inr (.inl h)
  · exact .inl h
  · exact .inr (.inr fun e => h e.symm)
theorem Two.alloc {w : World} {B : Nat} {u v : Value} {L M : List Int} (h : Two w B u L v M) (o : Obj) : Two (w.alloc o) B u L v M := ⟨World.ownsRow.alloc h.1 o, World.ownsRow.alloc h.2.1 o, h.2.2⟩
theorem Two.nil (w : World) (B : Nat) : Two w B (.slice none 0 0) [] (.slice none 0 0) [] := ⟨GrowI.nil _ _, GrowI.nil _ _, .inl rfl⟩
/-- What was made behind N stands. -/
def Kept (N : Nat) (w w' : World) : Prop := ∀ b, N ≤ b → b < w.heap.size → ∀ j, w'.cell? ⟨b, j, none⟩ = w.cell? ⟨b, j, none⟩
theorem step_two {ops : Array Oper} {o : Oper} {a : Act} {K : Act → World → Prop} {Q : Exit → Act → World → Prop} {E : Prop} (w : World) (hgd : o.guard = none) (s x : Operand)
    (ho : o.op = .call { callee := .builtin .append, args := #[s, x], argTypes := #[22, 22] })
    (B : Nat) (u v : Value) (L M : List Int) (hs : a.eval s = u) (hown : Two w B u L v M) (b c : Nat) (z : Int) (hx : a.eval x = .slice (some ⟨b, 0, none⟩) 1 c)
    (h0 : w.cell? ⟨b, 0, none⟩ = some (.int .i64 z)) (hb : L.length ≤ 1000) (wS : World) (hS : Below B wS w) (hB : B ≤ wS.heap.size) (huS : ∀ k, u.ownBlock = some k → k < wS.heap.size)
    (h : ∀ u' w', Two w' B u' (L ++ [z]) v M → Below B wS w' → Kept wS.heap.size w w' → K (a.put o.dst u') w') :
    if Region.wanted o (yielded ops a.tmps) = true then Oper.wp Try.prog o a w K Q else E := by
  have hw : Region.wanted o (yielded ops a.tmps) = true := by simp [Region.wanted, hgd]
  rw [if_pos hw]
  obtain ⟨i0, hi, hz0, hz1, hz2⟩ := info_parts info_int
  have hnews : ∀ j t, ([Value.int .i64 z])[j]? = some t → w.cell? ((⟨b, 0, none⟩ : Addr).add j) = some t := by
    intro j t hu
    rw [Addr.add_lit, Nat.zero_add]
    match j with
    | 0 => simp at hu; subst hu; exact h0
    | j + 1 => simp at hu
  obtain ⟨u', w', hr, h2', h3, _, h5⟩ := run_append_own_at (P := Try.prog) w B 22 o.type 3 i0 _ 1 8 Try.underlying22 hi hz0 hz1 hz2 rfl (by decide) u L.length (L.map (Value.int .i64)) hown.1 ⟨b, 0, none⟩ 1 c [Value.int .i64 z] rfl hnews (by simp [Value.oneCell']) (by unfold maxLen; omega) (by omega) (Nat.le_trans hB hS.size)
  have hT : Two w' B u' (L ++ [z]) v M := by
    refine ⟨?_, ?_, ?_⟩
    · unfold GrowI
      rw [List.length_append, List.map_append]
      exact h2'
    · refine World.ownsRow.kept hown.2.1 h3 ?_
      rcases hown.2.2 with e | e | e
      · rw [e]
        cases v.ownBlock with
        | none => exact .inl rfl
        | some k => exact .inr (Option.some_ne_none k)
      · exact .inl e
      · exact .inr fun e' => e e'.symm
    · rcases h5 with e | e
      · rw [e]; exact hown.2.2
      · rw [e]
        cases hv : v.ownBlock with
        | none => exact .inr (.inl rfl)
        | some k =>
          have := GrowI.lt hown.2.1 k hv
          exact .inr (.inr fun e' => by have := Option.some.inj e'; omega)
  unfold Oper.wp execOp
  simp only [ho, resolve, invoke, builtin, Sem.run_bind, Sem.run_pure, Result.andThen_ok, List.map_toArray, List.map_cons, List.map_nil, hs, hx, hr]
  refine h u' w' hT (hS.grown h3 (Nat.le_trans hB hS.size) fun k hk => (GrowI.lt hown.1 k hk).1) ?_
  intro b' hN hb' j
  have hbl := h3.block b' hb' (fun e => by have := huS b' e.symm; omega)
  simp [World.cell?, hbl]
/-- Is something wrong so far? -/
def wrongTo (b : Bool) (l : List Int) : Nat → Bool
  | 0 => b
  | k + 1 => wrongTo b l k || !timeB (nth l k)
theorem wrongTo_end (b : Bool) (l : List Int) : wrongTo b l l.length = (b || !timesB l) := by
  have key : ∀ k, k ≤ l.length → (wrongTo b l k = false ↔ b = false ∧ ∀ j, j < k → timeB (nth l j) = true) := by
    intro k
    induction k with
    | zero => intro _; exact ⟨fun h => ⟨h, fun j hj => absurd hj (by omega)⟩, fun h => h.1⟩
    | succ k ih =>
      intro hk
      rw [wrongTo, Bool.or_eq_false_iff, ih (by omega), Bool.not_eq_false']
      constructor
      · rintro ⟨⟨h1, h2⟩, h3⟩
        refine ⟨h1, fun j hj => ?_⟩
        by_cases e : j = k
        · subst e; exact h3
        · exact h2 j (by omega)
      · rintro ⟨h1, h2⟩
        exact ⟨⟨h1, fun j hj => h2 j (by omega)⟩, h2 k (by omega)⟩
  cases h : wrongTo b l l.length
  · obtain ⟨h1, h2⟩ := (key _ (Nat.le_refl _)).1 h
    rw [h1, timesB_of h2]
    rfl
  · cases h1 : b
    · cases h2 : timesB l
      · rfl
      · have := (key _ (Nat.le_refl _)).2 ⟨h1, fun j hj => timesB_nth h2 hj⟩
        rw [h] at this
        cases this
    · rfl
/-- What is not overtime of the first m minutes. -/
def minU (D L : Int) (m : Nat) : Int := min (min (m : Int) D) L
theorem minU_succ {D L : Int} (m : Nat) : minU D L (m + 1) = if minU D L m < D ∧ minU D L m < L then minU D L m + 1 else minU D L m := by
  unfold minU
  split <;> omega
theorem usL_snoc (l : List Int) (D W : Int) (k : Nat) : (List.range (k + 1)).map (usu l D W) = (List.range k).map (usu l D W) ++ [usu l D W k] := by simp [List.range_succ]
theorem ovL_snoc (l : List Int) (D W : Int) (k : Nat) : (List.range (k + 1)).map (fun j => nth l j - usu l D W j) = (List.range k).map (fun j => nth l j - usu l D W j) ++ [nth l k - usu l D W k] := by simp [List.range_succ]
theorem fill_range (f : Nat → Int) (n : Nat) : fillTo f n n = (List.range n).map f := by
  apply nth_ext
  · rw [fillTo_length]; simp
  · intro j hj
    rw [fillTo_length] at hj
    rw [nth_fillTo _ _ _ _ (Nat.le_refl _), if_pos hj]
    simp [nth, List.getD_eq_getElem?_getD, hj]
end Go.Proofs.Ytikkeidapgmcnaa
