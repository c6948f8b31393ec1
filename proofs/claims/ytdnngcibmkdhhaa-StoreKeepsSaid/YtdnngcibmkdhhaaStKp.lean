/-
  Promise S1: the walk of a disk's writing.
-/
import Derived.Test.YtdnngcibmkdhhaaStBase
namespace Go.Proofs.Ytdnngcibmkdhhaa
open Go.RowKit

/-- All is kept but the disk at b and its row. -/
def Kp (b : Nat) (x : Option Addr) (w w' : World) : Prop := w'.os = w.os ∧ w'.tape = w.tape ∧ w'.output = w.output ∧ w.heap.size ≤ w'.heap.size ∧ ∀ k, k < w.heap.size → k ≠ b → (∀ a, x = some a → k ≠ a.block) → w'.heap[k]? = w.heap[k]?
theorem Kp.refl (b : Nat) (x : Option Addr) (w : World) : Kp b x w w := ⟨rfl, rfl, rfl, Nat.le_refl _, fun _ _ _ _ => rfl⟩
theorem Kp.trans {b : Nat} {x : Option Addr} {w w' w'' : World} (h : Kp b x w w') (h' : Kp b x w' w'') : Kp b x w w'' :=
  ⟨h'.1.trans h.1, h'.2.1.trans h.2.1, h'.2.2.1.trans h.2.2.1, Nat.le_trans h.2.2.2.1 h'.2.2.2.1, fun k h1 h2 h3 => (h'.2.2.2.2 k (Nat.lt_of_lt_of_le h1 h.2.2.2.1) h2 h3).trans (h.2.2.2.2 k h1 h2 h3)⟩
theorem Kp.set {b : Nat} {x : Option Addr} (w : World) {p : Addr} (hp : p.block = b ∨ ∃ a, x = some a ∧ p.block = a.block) (v : Value) : Kp b x w (w.setCell p v) := by
  refine ⟨rfl, rfl, rfl, by simp [World.setCell], fun k _ h2 h3 => ?_⟩
  have hk : p.block ≠ k := by
    rcases hp with h | ⟨a, h, h'⟩
    · omega
    · have := h3 a h; omega
  simp [World.setCell, Array.getElem?_modify, hk]
theorem Kp.below {b : Nat} {x : Option Addr} {w w' : World} {B : Nat} (h : Kp b x w w') (hb : B ≤ b) (hx : ∀ a, x = some a → B ≤ a.block) (hB : B ≤ w.heap.size) : Below B w w' :=
  ⟨h.1, h.2.1, h.2.2.1, h.2.2.2.1, fun k hk => h.2.2.2.2 k (by omega) (by omega) (fun a ha => by have := hx a ha; omega)⟩
def wrE (D : Dk) (i : Int) (t : ByteArray) : Int := if D.pow = 0 ∨ D.off = true then 8 else if (0 ≤ i ∧ i < D.secs.length) ∧ t.size = 64 then 0 else 3
/-- The disk behind a write. -/
def wrD (D : Dk) (i : Int) (t : ByteArray) : Dk := if D.pow = 0 then { D with off := true } else if wrE D i t = 0 then ⟨D.secs.set i.toNat t, if 0 < D.pow then D.pow - 1 else D.pow, D.wrt + 1, D.off⟩ else D
theorem dnth_set {l : List ByteArray} {k j : Nat} {t : ByteArray} (hk : k < l.length) : dnth (l.set k t) j = if j = k then t else dnth l j := by
  unfold dnth
  rw [List.getD_eq_getElem?_getD, List.getD_eq_getElem?_getD, List.getElem?_set]
  by_cases e : k = j
  · subst e; simp [hk]
  · rw [if_neg e, if_neg (fun q => e q.symm)]
theorem st_ret {e e' : Int} (h : e = e') : Ending.returned (.int .i64 e) = .returned (.int .i64 e') := by rw [h]
/-- A sector is written, and counted. -/
theorem DkAt.put {W : World} {b g c k : Nat} {l : List ByteArray} {p n : Int} {o : Bool} {t : ByteArray} (ho : OB W b #[.slice (some ⟨g, 0, none⟩) l.length c, .int .i64 p, .int .i64 n, .bool o] 40) (hgb : g ≠ b) (hg : g < W.heap.size) (hc : ∀ j, j < l.length → W.cell? ⟨g, j, none⟩ = some (.string (dnth l j)) ∧ W.frozen? ⟨g, j, none⟩ = false) (hk : k < l.length) (n' : Int) :
    DkAt ((W.setCell ⟨g, k, none⟩ (.string t)).setCell ⟨b, 2, none⟩ (.int .i64 n')) b (some ⟨g, 0, none⟩) c ⟨l.set k t, p, n', o⟩ := by
  have hl : (l.set k t).length = l.length := by simp
  refine ⟨?_, fun _ => ⟨g, rfl, hgb, by simp; exact hg, fun j hj => ?_⟩⟩
  · have q := (ho.other (Ne.symm hgb) k (.string t)).set 2 (.int .i64 n')
    unfold OB at q ⊢
    rw [q]
    simp
  · have hj' : j < l.length := by
      have : j < (l.set k t).length := hj
      omega
    refine ⟨?_, ?_⟩
    · rw [World.cell?_setCell_other (h := fun e => hgb (by injection e; omega))]
      show _ = some (Value.string (dnth (l.set k t) j))
      rw [dnth_set hk]
      by_cases e : j = k
      · subst e
        rw [if_pos rfl]
        exact World.cell?_setCell_same _ _ _ (hc j hj').1
      · rw [if_neg e, World.cell?_setCell_other (h := fun q => e (by injection q; omega))]
        exact (hc j hj').1
    · rw [World.frozen?_setCell, World.frozen?_setCell]
      exact (hc j hj').2
end Go.Proofs.Ytdnngcibmkdhhaa
