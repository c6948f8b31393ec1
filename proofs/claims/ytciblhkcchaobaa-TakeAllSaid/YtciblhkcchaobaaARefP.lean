/-
  The reference's TakeAll: its numbers, pure.
-/
import Derived.Test.YtciblhkcchaobaaARef
import Derived.Test.YtciblhkcchaobaaALaw
namespace Go.Proofs.Ytciblhkcchaobaa
open Go.RowKit

theorem uret_t {v : Value} {a b : Int} (h : a = b) : Ending.returned (.tuple #[v, .int .i64 a]) = .returned (.tuple #[v, .int .i64 b]) := by rw [h]
theorem grown_set (w : World) (g j : Nat) (v : Value) : w.grownBy (w.setCell ⟨g, j, none⟩ v) (some g) := by
  refine ⟨rfl, rfl, rfl, by simp, fun k hk hne => ?_⟩
  have : k ≠ g := fun e => hne (by rw [e])
  simp [World.setCell, Array.getElem?_modify, Ne.symm this]
theorem GrowF.other {w : World} {B n : Nat} {v : Value} {L : List Int} (h : GrowF w B v n L) {g : Nat} (hg : ∀ b, v.ownBlock = some b → b ≠ g) (j : Nat) (x : Value) : GrowF (w.setCell ⟨g, j, none⟩ x) B v n L := by
  refine ⟨World.ownsRow.kept h.1 (grown_set w g j x) ?_, h.2⟩
  cases hv : v.ownBlock with
  | none => exact .inl rfl
  | some b => exact .inr (fun e => hg b hv (Option.some.inj e))
/-- A number, cut off at another one. -/
def cutI (i m : Nat) (all x : Int) : Int := if m < i then min x all else x
def ends (i : Nat) (all x y z : Int) : List Int := [cutI i 0 all x, cutI i 1 all y, cutI i 2 all z]
theorem nth3 (x y z : Int) : nth [x, y, z] 0 = x ∧ nth [x, y, z] 1 = y ∧ nth [x, y, z] 2 = z := ⟨rfl, rfl, rfl⟩
theorem ref_pure {g k : Int} {l : List Cl} (hg : 0 ≤ g) (hk : 0 ≤ k) (h : Fine l) {j : Nat} (hj : j < l.length) :
    min (asked l j + due (cnth l j)) (lft g k l 0) - min (asked l j) (lft g k l 0) = now g k l j ∧
    min (asked l j + due (cnth l j) + (cnth l j).owed) (lft g k l 0) - min (asked l j + due (cnth l j)) (lft g k l 0) = bef g k l j := by
  have h1 := lft_asked hg hk h j (by omega)
  have h0 := lft_asked hg hk h 0 (by omega)
  have := h.2 j hj
  have := asked_bd h j (by omega)
  unfold bef now
  rw [asked] at h0
  omega
theorem own_lit (w : World) (l : List Int) (t : TypeId) : Own (w.alloc (.cells (l.map (Value.int .i64)).toArray t)) w.heap.size l := by
  refine ⟨by simp, fun j hj => ?_⟩
  rw [World.cell?_alloc_at (w := w) _ _ _ _ rfl, World.frozen?_alloc_at (w := w) _ _ _ _ rfl]
  refine ⟨?_, rfl⟩
  simp [nth, List.getD_eq_getElem?_getD, hj]
theorem cut_no {i m : Nat} {all x : Int} (h : ¬ m < i) : cutI i m all x = x := if_neg h
theorem cut_yes {i m : Nat} {all x : Int} (h : m < i) : cutI i m all x = min x all := if_pos h
theorem ends_set {all x y z : Int} : ends 1 all x y z = (ends 0 all x y z).set 0 (min x all) ∧ ends 2 all x y z = (ends 1 all x y z).set 1 (min y all) ∧ ends 3 all x y z = (ends 2 all x y z).set 2 (min z all) := ⟨rfl, rfl, rfl⟩
/-- The inner loop's one round: the number at i, cut off. -/
def REnd (w0 wr : World) (B E : Nat) (v : Value) (n : Nat) (L : List Int) (M : List Int) : Prop := Own wr E M ∧ GrowF wr B v n L ∧ Below w0.heap.size w0 wr
theorem REnd.set {w0 wr : World} {B E : Nat} {v : Value} {n : Nat} {L M : List Int} (h : REnd w0 wr B E v n L M) (hE : w0.heap.size ≤ E) (hv : ∀ b, v.ownBlock = some b → b ≠ E) {i : Nat} (hi : i < M.length) (x : Int) : REnd w0 (wr.setCell ⟨E, i, none⟩ (.int .i64 x)) B E v n L (M.set i x) :=
  ⟨h.1.set hi x, h.2.1.other hv _ _, h.2.2.setCell hE _⟩
theorem REnd.boxed {w0 wr : World} {B E : Nat} {v : Value} {n : Nat} {L M : List Int} (h : REnd w0 wr B E v n L M) (o : Obj) : REnd w0 (wr.alloc o).drew B E v n L M :=
  ⟨(h.1.alloc o).drewN 1, h.2.1.alloc o, (h.2.2.alloc h.2.2.size o).drew⟩
theorem REnd.other {w0 wr : World} {B E : Nat} {v : Value} {n : Nat} {L M : List Int} (h : REnd w0 wr B E v n L M) {X : Nat} (hE : E ≠ X) (hX : w0.heap.size ≤ X) (hv : ∀ b, v.ownBlock = some b → b ≠ X) (i : Nat) (x : Value) : REnd w0 (wr.setCell ⟨X, i, none⟩ x).drew B E v n L M :=
  ⟨(h.1.other hE i x).drewN 1, h.2.1.other hv i x, (h.2.2.setCell hX _).drew⟩
/-- The numbers of one round. -/
structure Nums (g k : Int) (l : List Cl) (j : Nat) (AL A L d o p q r : Int) : Prop where
  b1 : 0 ≤ d ∧ d ≤ 1000000000000
  b2 : 0 ≤ o ∧ o ≤ 1000000000000
  b3 : 0 ≤ A ∧ A ≤ 60000000000000
  b4 : 0 ≤ L ∧ L ≤ g
  b5 : 0 ≤ AL ∧ AL ≤ 1000000000000
  b6 : 0 ≤ g ∧ g ≤ 1000000000000
  ep : min (A + d) AL - min A AL = p
  eq : min (A + d + o) AL - min (A + d) AL = q
  er : r = d + o - p - q
  bp : 0 ≤ p ∧ p ≤ d
  bq : 0 ≤ q ∧ q ≤ o
  ask : asked l (j + 1) = A + (d + o)
  left : lft g k l (j + 1) = L - (p + q)
  tak : takenL g k l (j + 1) = takenL g k l j ++ [p, q, r]
theorem Nums.bds {g k : Int} {l : List Cl} {j : Nat} {AL A L d o p q r : Int} (h : Nums g k l j AL A L d o p q r) : (0 ≤ d ∧ d ≤ 1000000000000) ∧ (0 ≤ o ∧ o ≤ 1000000000000) ∧ (0 ≤ A ∧ A ≤ 60000000000000) ∧ (0 ≤ L ∧ L ≤ g) ∧ (0 ≤ AL ∧ AL ≤ 1000000000000) := ⟨h.b1, h.b2, h.b3, h.b4, h.b5⟩
theorem round_nums {g k AL : Int} {l : List Cl} {w : World} {b off j : Nat} {A L : Int} (hg : 0 ≤ g) (hk : 0 ≤ k) (h : Fine l) (hq : ∀ j, j < l.length → 0 ≤ (cnth l j).want ∧ (cnth l j).want ≤ 1000000000000 ∧ 0 ≤ (cnth l j).owed ∧ (cnth l j).owed ≤ 1000000000000 ∧ 0 ≤ (cnth l j).year ∧ (cnth l j).year ≤ 1000000000000 ∧ (cnth l j).cap ≤ 1000000000000)
    (hj : j < l.length) (h0 : lft g k l 0 = AL) (hA : asked l j = A) (hL : lft g k l j = L) (hcell : ∀ w', Below w.heap.size w w' → ClIs w' b (off + j * 4) (cnth l j)) (hg1 : g ≤ 1000000000000) :
    ∃ d o p q r, Hid (Nums g k l j AL A L d o p q r) ∧ Hid (∀ w', Below w.heap.size w w' → w'.cell? ⟨b, off + j * 4, none⟩ = some (.int .i64 (cnth l j).want) ∧ w'.cell? ⟨b, off + j * 4 + 1, none⟩ = some (.int .i64 o) ∧ w'.cell? ⟨b, off + j * 4 + 2, none⟩ = some (.int .i64 (cnth l j).cap) ∧ w'.cell? ⟨b, off + j * 4 + 3, none⟩ = some (.int .i64 (cnth l j).year)) ∧
      Hid (∀ w, Calls Try.prog 19 #[.agg #[.int .i64 (cnth l j).want, .int .i64 o, .int .i64 (cnth l j).cap, .int .i64 (cnth l j).year]] w fun e w' => e = .returned (.int .i64 d) ∧ Below w.heap.size w w') := by
  obtain ⟨q1, q2, q3, q4, q5, q6, q7⟩ := hq j hj
  obtain ⟨r1, r2, r3, r4⟩ := h.2 j hj
  have hab := asked_bd h j (by omega)
  have hlb := lft_bd hg hk h j (by omega)
  have hl0 := lft_bd hg hk h 0 (by omega)
  have hob := owe_bd hg hk h hj
  obtain ⟨p1, p2⟩ := ref_pure hg hk h hj
  have h30 := h.1
  refine ⟨due (cnth l j), (cnth l j).owed, now g k l j, bef g k l j, owe g k l j, ?_, fun w' hb => hcell w' hb, fun w => dueOf_b (cnth l j) w q1 q5 q6 q7⟩
  refine ⟨⟨r1, r2⟩, ⟨r3, r4⟩, ?_, by rw [← hL]; exact hlb, by rw [← h0]; omega, ⟨hg, hg1⟩, by rw [← hA, ← h0]; exact p1, by rw [← hA, ← h0]; exact p2, rfl, by omega, by omega, by rw [← hA]; rfl, by rw [← hL]; rfl, rfl⟩
  rw [← hA]
  omega
/-- The numbers cut off, and the sums that do not wrap. -/
theorem round_mins {g k : Int} {l : List Cl} {j : Nat} {AL A L d o p q r N : Int} (h : Nums g k l j AL A L d o p q r) (hN : N = g - (AL - L)) :
    ∃ m0 m1 m2 s N2 s4 s5 A2, Hid (ends 3 AL A (A + d) (A + d + o) = [m0, m1, m2] ∧ (IntKind.i64.wrap (m1 - m0) = p ∧ IntKind.i64.wrap (m2 - m1) = q ∧ IntKind.i64.wrap (d + o) = s4 ∧ IntKind.i64.wrap (s4 - p) = s5 ∧ IntKind.i64.wrap (s5 - q) = r ∧ IntKind.i64.wrap (m2 - m0) = s ∧ IntKind.i64.wrap (N - s) = N2 ∧ IntKind.i64.wrap (A + s4) = A2) ∧ N2 = g - (AL - (L - (p + q))) ∧ A2 = A + (d + o)) := by
  obtain ⟨b1, b2, b3, b4, b5, b6, ep, eq, er, bp, bq, _, _, _⟩ := h
  refine ⟨min A AL, min (A + d) AL, min (A + d + o) AL, p + q, N - (p + q), d + o, d + o - p, A + (d + o), rfl, ⟨?_, ?_, ?_, ?_, ?_, ?_, ?_, ?_⟩, by omega, rfl⟩
  · rw [IntWalk.i64_in _ (by omega)]; exact ep
  · rw [IntWalk.i64_in _ (by omega)]; exact eq
  · exact IntWalk.i64_in _ (by omega)
  · exact IntWalk.i64_in _ (by omega)
  · rw [IntWalk.i64_in _ (by omega)]; exact er.symm
  · rw [IntWalk.i64_in _ (by omega)]; omega
  · exact IntWalk.i64_in _ (by omega)
  · exact IntWalk.i64_in _ (by omega)
end Go.Proofs.Ytciblhkcchaobaa
