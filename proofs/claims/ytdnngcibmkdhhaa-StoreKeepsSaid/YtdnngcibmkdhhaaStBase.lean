/-
  Promise S1: a disk in memory, and what it answers: the walks of the disk's own methods.
-/
import Derived.Test.YtdnngcibmkdhhaaMInts
import Derived.Lib.Hide
namespace Go.Proofs.Ytdnngcibmkdhhaa
open Go.RowKit

def OB (w : World) (g : Nat) (vs : Array Value) (T : TypeId) : Prop := w.heap[g]? = some (.cells vs T (0, 0))
theorem OB.lt {w : World} {g : Nat} {vs : Array Value} {T : TypeId} (h : OB w g vs T) : g < w.heap.size := (Array.getElem?_eq_some_iff.1 h).1
theorem OB.below {w w' : World} {g : Nat} {vs : Array Value} {T : TypeId} (h : OB w g vs T) (hb : Below w.heap.size w w') : OB w' g vs T := by
  unfold OB
  rw [hb.block g h.lt]
  exact h
theorem OB.four {w : World} {g : Nat} {x y z u : Value} {T : TypeId} (h : OB w g #[x, y, z, u] T) : (w.cell? ⟨g, 0, none⟩ = some x ∧ w.frozen? ⟨g, 0, none⟩ = false) ∧ (w.cell? ⟨g, 1, none⟩ = some y ∧ w.frozen? ⟨g, 1, none⟩ = false) ∧ (w.cell? ⟨g, 2, none⟩ = some z ∧ w.frozen? ⟨g, 2, none⟩ = false) ∧ w.cell? ⟨g, 3, none⟩ = some u ∧ w.frozen? ⟨g, 3, none⟩ = false := by
  unfold OB at h
  refine ⟨⟨?_, ?_⟩, ⟨?_, ?_⟩, ⟨?_, ?_⟩, ?_, ?_⟩ <;> simp [World.cell?, World.frozen?, h]
theorem OB.set {w : World} {g : Nat} {vs : Array Value} {T : TypeId} (h : OB w g vs T) (i : Nat) (v : Value) : OB (w.setCell ⟨g, i, none⟩ v) g (vs.setIfInBounds i v) T := by
  unfold OB at *
  simp [World.setCell, Array.getElem?_modify, h]
theorem OB.other {w : World} {g g' : Nat} {vs : Array Value} {T : TypeId} (h : OB w g vs T) (hg : g ≠ g') (i : Nat) (v : Value) : OB (w.setCell ⟨g', i, none⟩ v) g vs T := by
  unfold OB at *
  simp [World.setCell, Array.getElem?_modify, h, Ne.symm hg]
/-- A disk: its sectors, after how many writes its power goes, how many were written, whether it went. -/
structure Dk where
  secs : List ByteArray
  pow : Int
  wrt : Int
  off : Bool
def dnth (l : List ByteArray) (j : Nat) : ByteArray := l.getD j ⟨#[]⟩
/-- Where a disk lies: its own block b, its sectors in a row of their own. -/
def DkAt (w : World) (b : Nat) (x : Option Addr) (c : Nat) (D : Dk) : Prop :=
  OB w b #[.slice x D.secs.length c, .int .i64 D.pow, .int .i64 D.wrt, .bool D.off] 40 ∧ (0 < D.secs.length → ∃ g, x = some ⟨g, 0, none⟩ ∧ g ≠ b ∧ g < w.heap.size ∧ ∀ j, j < D.secs.length → w.cell? ⟨g, j, none⟩ = some (.string (dnth D.secs j)) ∧ w.frozen? ⟨g, j, none⟩ = false)
theorem DkAt.below {w w' : World} {b : Nat} {x : Option Addr} {c : Nat} {D : Dk} (h : DkAt w b x c D) (hb : Below w.heap.size w w') : DkAt w' b x c D := by
  refine ⟨h.1.below hb, fun h0 => ?_⟩
  obtain ⟨g, h1, h2, h3, h4⟩ := h.2 h0
  exact ⟨g, h1, h2, Nat.lt_of_lt_of_le h3 hb.size, fun j hj => ⟨(hb.cell (p := ⟨g, j, none⟩) h3).trans (h4 j hj).1, (hb.frozen (p := ⟨g, j, none⟩) h3).trans (h4 j hj).2⟩⟩
theorem st_ret2 {v v' : Value} {e e' : Int} (h : v = v') (h2 : e = e') : Ending.returned (.tuple #[v, .int .i64 e]) = .returned (.tuple #[v', .int .i64 e']) := by rw [h, h2]
/-- What reading answers. -/
def rdE (D : Dk) (i : Int) : Int := if D.off = true then 8 else if 0 ≤ i ∧ i < D.secs.length then 0 else 3
def rdT (D : Dk) (i : Int) : ByteArray := if rdE D i = 0 then dnth D.secs i.toNat else ⟨#[]⟩
set_option maxRecDepth 100000 in
set_option maxHeartbeats 2000000 in
theorem diskRead_any (b : Nat) (x : Option Addr) (c : Nat) (D : Dk) (i : Int) (w : World) (h : DkAt w b x c D) (hm : D.secs.length ≤ 9223372036854775807) :
    Calls Try.prog 47 #[.pointer (some ⟨b, 0, none⟩), .int .i64 i] w fun e w' => e = .returned (.tuple #[.string (rdT D i), .int .i64 (rdE D i)]) ∧ w' = w := by
  have HD := Lib.hid h
  obtain ⟨⟨c0, _⟩, _, _, c3, _⟩ := h.1.four
  have HE : Hid (rdE D i = if D.off = true then 8 else if 0 ≤ i ∧ i < D.secs.length then 0 else 3) := rfl
  have HT : Hid (rdT D i = if rdE D i = 0 then dnth D.secs i.toNat else ⟨#[]⟩) := rfl
  obtain ⟨n, hn⟩ : ∃ n, D.secs.length = n := ⟨_, rfl⟩
  have HN := Lib.hid hn
  rw [hn] at c0 HE hm
  clear h hn
  cases hof : D.off
  · rw [hof] at c3 HE
    rw [if_neg (by decide)] at HE
    by_cases hi : 0 ≤ i ∧ i < n
    · rw [if_pos hi] at HE
      rw [HE.out, if_pos rfl] at HT
      obtain ⟨k, rfl⟩ : ∃ k : Nat, i = (k : Int) := ⟨i.toNat, by omega⟩
      obtain ⟨g, rfl, _, _, hc⟩ := HD.out.2 (by rw [HN.out]; omega)
      have hkn : k < n := by omega
      have z0 := (hc k (by rw [HN.out]; exact hkn)).1
      have hk' : (k : Int) < (n : Int) := by omega
      have hk0 : decide ((k : Int) < 0) = false := decide_eq_false (by omega)
      have hk2 : decide ((n : Int) ≤ (k : Int)) = false := decide_eq_false (by omega)
      have HT2 : Hid (rdT D (k : Int) = dnth D.secs k) := by unfold Hid; rw [HT.out]; rfl
      clear hc hi HT
      go_enter Try.func47, Try.ntmps47
      go_wp2_with fail
      go_ret2
      exact ⟨st_ret2 (by rw [HT2.out]; rfl) HE.out.symm, rfl⟩
    · rw [if_neg hi] at HE
      rw [HE.out, if_neg (by decide)] at HT
      by_cases h0 : i < 0
      · have h0' : decide (i < 0) = true := decide_eq_true h0
        go_enter Try.func47, Try.ntmps47
        go_wp2_with fail
        go_ret2
        exact ⟨st_ret2 (by rw [HT.out]; rfl) HE.out.symm, rfl⟩
      · have h0' : decide (i < 0) = false := decide_eq_false h0
        have h1 : (n : Int) ≤ i := by omega
        have h1' : decide ((n : Int) ≤ i) = true := decide_eq_true h1
        go_enter Try.func47, Try.ntmps47
        go_wp2_with fail
        go_ret2
        exact ⟨st_ret2 (by rw [HT.out]; rfl) HE.out.symm, rfl⟩
  · rw [hof] at c3 HE
    rw [if_pos rfl] at HE
    rw [HE.out, if_neg (by decide)] at HT
    go_enter Try.func47, Try.ntmps47
    go_wp2_with fail
    go_ret2
    exact ⟨st_ret2 (by rw [HT.out]; rfl) HE.out.symm, rfl⟩
end Go.Proofs.Ytdnngcibmkdhhaa
