/-
  Promise S1: what a disk keeps, and what writing changes of it: no walk.
-/
import Derived.Test.YtdnngcibmkdhhaaStHd
namespace Go.Proofs.Ytdnngcibmkdhhaa

/-- The bytes of k sectors, from o on. -/
def catL (l : List ByteArray) (o : Nat) : Nat → List UInt8
  | 0 => []
  | k + 1 => catL l o k ++ (dnth l (o + k)).data.toList
/-- The text that a disk keeps. -/
def keptT (l : List ByteArray) : ByteArray := ⟨((catL l (1 + hdH (dnth l 0) * 32) ((hdL (dnth l 0) + 63) / 64)).take (hdL (dnth l 0))).toArray⟩
/-- A disk in order. -/
def GS (l : List ByteArray) : Prop := (80 ≤ l.length ∧ l.length ≤ 100000) ∧ (∀ j, j < l.length → (dnth l j).size = 64) ∧ hdB (dnth l 0) = true
theorem catL_same {l l' : List ByteArray} {o : Nat} : ∀ k, (∀ j, j < k → dnth l' (o + j) = dnth l (o + j)) → catL l' o k = catL l o k
  | 0, _ => rfl
  | k + 1, h => by
    show catL l' o k ++ _ = catL l o k ++ _
    rw [catL_same k (fun j hj => h j (by omega)), h k (by omega)]
theorem hd_of {t : ByteArray} (h : hdB t = true) : hdH t ≤ 1 ∧ hdL t ≤ 2000 ∧ hdT (hdH t) (hdL t) = t := by
  unfold hdB at h
  simpa using h
theorem hdN_hdT {f n : Nat} : hdN (hdT f n) 0 = f % 256 ∧ hdN (hdT f n) 1 = n / 256 % 256 ∧ hdN (hdT f n) 2 = n % 256 := by
  have key : ∀ (a b c : UInt8), hdN (fillT ⟨#[a, b, c]⟩) 0 = a.toNat ∧ hdN (fillT ⟨#[a, b, c]⟩) 1 = b.toNat ∧ hdN (fillT ⟨#[a, b, c]⟩) 2 = c.toNat := fun a b c => ⟨rfl, rfl, rfl⟩
  have := key f.toUInt8 (n / 256).toUInt8 n.toUInt8
  simpa [hdT, hdP] using this
theorem hdH_hdT {f n : Nat} (hf : f ≤ 1) : hdH (hdT f n) = f := by
  have := (hdN_hdT (f := f) (n := n)).1
  unfold hdH
  omega
theorem hdL_hdT {f n : Nat} (hn : n ≤ 2000) : hdL (hdT f n) = n := by
  have := (hdN_hdT (f := f) (n := n)).2
  unfold hdL
  omega
theorem hdB_hdT {f n : Nat} (hf : f ≤ 1) (hn : n ≤ 2000) : hdB (hdT f n) = true := by
  unfold hdB
  rw [hdH_hdT hf, hdL_hdT hn]
  simp [hf, hn]
theorem hdT_size {f n : Nat} : (hdT f n).size = 64 := fillT_size (show 3 ≤ 64 by omega)
/-- The piece k of a text. -/
def pieceL (s : ByteArray) (k : Nat) : List UInt8 := (s.data.toList.drop (k * 64)).take 64
def pieceT (s : ByteArray) (k : Nat) : ByteArray := ⟨(pieceL s k).toArray⟩
theorem pieceT_size (s : ByteArray) (k : Nat) : (pieceT s k).size ≤ 64 := by
  show (pieceL s k).toArray.size ≤ 64
  simp [pieceL]
  omega
/-- Behind k rounds: the half h has k pieces of s, all else is as it was. -/
def HalfIs (l l' : List ByteArray) (h : Nat) (s : ByteArray) (k : Nat) : Prop := l'.length = l.length ∧ (∀ j, j < k → dnth l' (1 + h * 32 + j) = fillT (pieceT s j)) ∧ ∀ j, (j < 1 + h * 32 ∨ 1 + h * 32 + k ≤ j) → dnth l' j = dnth l j
theorem HalfIs.zero (l : List ByteArray) (h : Nat) (s : ByteArray) : HalfIs l l h s 0 := ⟨rfl, fun _ h => absurd h (Nat.not_lt_zero _), fun _ _ => rfl⟩
theorem HalfIs.step {l l' : List ByteArray} {h k : Nat} {s : ByteArray} (hi : HalfIs l l' h s k) (hl : 1 + h * 32 + k < l.length) : HalfIs l (l'.set (1 + h * 32 + k) (fillT (pieceT s k))) h s (k + 1) := by
  obtain ⟨h1, h2, h3⟩ := hi
  refine ⟨by simpa using h1, fun j hj => ?_, fun j hj => ?_⟩
  · rw [dnth_set (by omega)]
    by_cases e : j = k
    · subst e; rw [if_pos rfl]
    · rw [if_neg (by omega)]; exact h2 j (by omega)
  · rw [dnth_set (by omega), if_neg (by omega)]
    exact h3 j (by omega)
theorem HalfIs.gs {l l' : List ByteArray} {h k : Nat} {s : ByteArray} (hi : HalfIs l l' h s k) (hg : GS l) : GS l' := by
  refine ⟨by rw [hi.1]; exact hg.1, fun j hj => ?_, by rw [hi.2.2 0 (by omega)]; exact hg.2.2⟩
  by_cases hb : j < 1 + h * 32 ∨ 1 + h * 32 + k ≤ j
  · rw [hi.2.2 j hb]
    exact hg.2.1 j (by rw [← hi.1]; exact hj)
  · obtain ⟨q, rfl⟩ : ∃ q, j = 1 + h * 32 + q := ⟨j - (1 + h * 32), by omega⟩
    rw [hi.2.1 q (by omega)]
    exact fillT_size (pieceT_size s q)
/-- A half that the head does not name may be written over. -/
theorem HalfIs.kept {l l' : List ByteArray} {h k : Nat} {s : ByteArray} (hi : HalfIs l l' h s k) (hg : GS l) (hh : h = 1 - hdH (dnth l 0)) (hk : k ≤ 32) : keptT l' = keptT l := by
  have h0 : dnth l' 0 = dnth l 0 := hi.2.2 0 (by omega)
  obtain ⟨b1, b2, _⟩ := hd_of hg.2.2
  unfold keptT
  rw [h0, catL_same _ (fun j hj => hi.2.2 _ (by omega))]
theorem pieces_cat {l' : List ByteArray} {o : Nat} {s : ByteArray} : ∀ k, (∀ j, j < k → dnth l' (o + j) = fillT (pieceT s j)) → (∀ j, j + 1 < k → (j + 1) * 64 ≤ s.size) → (catL l' o k).take (min (k * 64) s.size) = s.data.toList.take (k * 64) ∧ (catL l' o k).length = k * 64
  | 0, _, _ => by simp [catL]
  | k + 1, h, hz => by
    obtain ⟨h1, h2⟩ := pieces_cat k (fun j hj => h j (by omega)) (fun j hj => hz j (by omega))
    have hlen : s.data.toList.length = s.size := by simp
    have hk : k * 64 ≤ s.size := by
      cases k with
      | zero => omega
      | succ k => exact hz k (by omega)
    have hcat : catL l' o (k + 1) = catL l' o k ++ fillL (pieceT s k) := by
      show catL l' o k ++ _ = _
      rw [h k (by omega)]
      rfl
    have hpl : (pieceT s k).data.toList = pieceL s k := rfl
    have hps : (pieceT s k).size = (pieceL s k).length := rfl
    have hpn : (pieceL s k).length = min 64 (s.size - k * 64) := by simp [pieceL]
    rw [Nat.min_eq_left hk, ] at h1
    have h1' : catL l' o k = s.data.toList.take (k * 64) := by
      rw [← h1, List.take_of_length_le (by omega)]
    refine ⟨?_, ?_⟩
    · rw [hcat, List.take_append, h1', List.length_take, hlen, Nat.min_eq_left hk, List.take_take, fillL, hpl, List.take_append, hps]
      have e1 : min (min ((k + 1) * 64) s.size) (k * 64) = k * 64 := by omega
      have e2 : min ((k + 1) * 64) s.size - k * 64 = (pieceL s k).length := by omega
      rw [e1, e2, List.take_length, Nat.sub_self, List.take_zero, List.append_nil]
      unfold pieceL
      rw [show (k + 1) * 64 = k * 64 + 64 by omega, List.take_add]
    · rw [hcat, List.length_append, h2, fillL_len (pieceT_size s k)]
      omega
/-- With the new head the new text is kept. -/
theorem HalfIs.done {l l' : List ByteArray} {h : Nat} {s : ByteArray} (hi : HalfIs l l' h s ((s.size + 63) / 64)) (hg : GS l) (hh : h ≤ 1) (hs : s.size ≤ 2000) : GS (l'.set 0 (hdT h s.size)) ∧ keptT (l'.set 0 (hdT h s.size)) = s := by
  have hg' := hi.gs hg
  have hl : 0 < l'.length := by have := hg'.1.1; omega
  have h0 : dnth (l'.set 0 (hdT h s.size)) 0 = hdT h s.size := by rw [dnth_set hl, if_pos rfl]
  refine ⟨⟨by simpa using hg'.1, fun j hj => ?_, by rw [h0]; exact hdB_hdT hh hs⟩, ?_⟩
  · rw [dnth_set hl]
    by_cases e : j = 0
    · rw [if_pos e]; exact hdT_size
    · rw [if_neg e]; exact hg'.2.1 j (by simpa using hj)
  · unfold keptT
    rw [h0, hdH_hdT hh, hdL_hdT hs]
    obtain ⟨h1, h2⟩ := pieces_cat (l' := l'.set 0 (hdT h s.size)) (o := 1 + h * 32) (s := s) ((s.size + 63) / 64) (fun j hj => by rw [dnth_set hl, if_neg (by omega)]; exact hi.2.1 j hj) (fun j hj => by omega)
    have hlen : s.data.toList.length = s.size := by simp
    rw [show min ((s.size + 63) / 64 * 64) s.size = s.size by omega, List.take_of_length_le (l := s.data.toList) (by omega)] at h1
    rw [h1]
end Go.Proofs.Ytdnngcibmkdhhaa
