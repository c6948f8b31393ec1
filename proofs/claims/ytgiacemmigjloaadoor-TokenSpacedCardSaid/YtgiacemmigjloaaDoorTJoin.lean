/-
  Promise E3: the tokens of a text, put together again with a blank between each two, are the same tokens.
-/
import Derived.Test.YtgiacemmigjloaaDoorTSpaced
namespace Go.Proofs.YtgiacemmigjloaaDoor
open Go.RowKit

theorem bt_app_l {a b : ByteArray} {x : Nat} (h : x < a.size) : bt (a ++ b) x = bt a x := by
  rw [bt_in h, bt_in (by rw [ByteArray.size_append]; omega)]
  rw [ByteArray.getElem_append_left h]
theorem bt_app_r {a b : ByteArray} (i : Nat) : bt (a ++ b) (a.size + i) = bt b i := by
  by_cases h : i < b.size
  · rw [bt_in h, bt_in (by rw [ByteArray.size_append]; omega)]
    rw [ByteArray.getElem_append_right (by omega)]
    simp
  · rw [bt_out h, bt_out (by rw [ByteArray.size_append]; omega)]
/-- The first tokens, with blanks between. -/
def Jn (L : List Tk) : Nat → ByteArray
  | 0 => ⟨#[]⟩
  | j + 1 => (if 0 < j then Jn L j ++ ⟨#[32]⟩ else Jn L j) ++ (tnth L j).txt
/-- Where a token begins there. -/
def place (L : List Tk) (j : Nat) : Nat := (Jn L j).size + (if 0 < j then 1 else 0)
theorem head_size (L : List Tk) (j : Nat) : (if 0 < j then Jn L j ++ ⟨#[32]⟩ else Jn L j).size = place L j := by
  unfold place
  split
  · rw [ByteArray.size_append]; rfl
  · rfl
theorem jn_size (L : List Tk) (j : Nat) : (Jn L (j + 1)).size = place L j + (tnth L j).txt.size := by
  show ((if 0 < j then Jn L j ++ ⟨#[32]⟩ else Jn L j) ++ (tnth L j).txt).size = _
  rw [ByteArray.size_append, head_size]
theorem jn_le (L : List Tk) (j : Nat) : ∀ d, (Jn L j).size ≤ (Jn L (j + d)).size
  | 0 => Nat.le_refl _
  | d + 1 => by
    have ih := jn_le L j d
    have := jn_size L (j + d)
    unfold place at this
    rw [← Nat.add_assoc]
    omega
theorem jn_pre (L : List Tk) (j x : Nat) (h : x < (Jn L j).size) : ∀ d, bt (Jn L (j + d)) x = bt (Jn L j) x
  | 0 => rfl
  | d + 1 => by
    have ih := jn_pre L j x h d
    have hl := jn_le L j d
    rw [← ih]
    show bt ((if 0 < j + d then Jn L (j + d) ++ ⟨#[32]⟩ else Jn L (j + d)) ++ (tnth L (j + d)).txt) x = _
    rw [bt_app_l (by rw [head_size]; unfold place; omega)]
    split
    · rw [bt_app_l (by omega)]
    · rfl
theorem jn_tok (L : List Tk) {N j i : Nat} (hj : j < N) (hi : i < (tnth L j).txt.size) : bt (Jn L N) (place L j + i) = bt (tnth L j).txt i := by
  obtain ⟨d, rfl⟩ : ∃ d, N = j + 1 + d := ⟨N - (j + 1), by omega⟩
  rw [jn_pre L (j + 1) _ (by rw [jn_size]; omega) d]
  show bt ((if 0 < j then Jn L j ++ ⟨#[32]⟩ else Jn L j) ++ (tnth L j).txt) _ = _
  rw [← head_size, bt_app_r]
theorem place_next (L : List Tk) (j : Nat) : place L (j + 1) = place L j + (tnth L j).txt.size + 1 := by
  have := jn_size L j
  have e : place L (j + 1) = (Jn L (j + 1)).size + 1 := by unfold place; rw [if_pos (by omega)]
  omega
theorem jn_sep (L : List Tk) {N j : Nat} (hj : j + 1 < N) : bt (Jn L N) (place L j + (tnth L j).txt.size) = 32 := by
  obtain ⟨d, rfl⟩ : ∃ d, N = j + 1 + 1 + d := ⟨N - (j + 1 + 1), by omega⟩
  have hsz := jn_size L j
  have hpn := place_next L j
  rw [jn_pre L (j + 1 + 1) _ (by rw [jn_size]; omega) d]
  show bt ((if 0 < j + 1 then Jn L (j + 1) ++ ⟨#[32]⟩ else Jn L (j + 1)) ++ (tnth L (j + 1)).txt) _ = _
  rw [bt_app_l (by rw [head_size]; omega), if_pos (by omega), ← hsz]
  have := bt_app_r (a := Jn L (j + 1)) (b := ⟨#[32]⟩) 0
  exact this.trans (by decide)
/-- Tokens that a text may begin with. -/
def Good (L : List Tk) : Prop := ∀ j, j < L.length → ∃ u n, 0 < u.size ∧ firstO u = .tok (tnth L j).k n (tnth L j).num (tnth L j).pt ∧ (tnth L j).txt = u.extract 0 n ∧ (tnth L j).txt.size = n
theorem toks_good {s : ByteArray} {a : Nat} {L : List Tk} (h : Toks s a L) : Good L := by
  induction h with
  | start a h ha => exact fun j hj => absurd hj (by simp)
  | step a L k n v p m h ha hf hm hms ih =>
    intro j hj
    rw [List.length_append] at hj
    simp only [List.length_cons, List.length_nil] at hj
    by_cases hj' : j < L.length
    · rw [tnth_app_lt hj']
      exact ih j hj'
    · obtain rfl : j = L.length := by omega
      rw [tnth_app_at]
      have hn := first_len (s := s.extract a s.size) (by rw [ByteArray.size_extract]; omega) hf
      refine ⟨s.extract a s.size, n, by rw [ByteArray.size_extract]; omega, hf, rfl, ?_⟩
      simp only
      rw [ByteArray.size_extract]
      omega
def SameTk (x y : Tk) : Prop := x.k = y.k ∧ x.txt = y.txt ∧ x.num = y.num ∧ x.pt = y.pt
theorem good_byte {L : List Tk} (hg : Good L) {j : Nat} (hj : j < L.length) : 1 ≤ (tnth L j).txt.size ∧ blkB (bt (tnth L j).txt 0) = false ∧ bt (tnth L j).txt 0 ≠ 35 := by
  obtain ⟨u, n, h0, hf, ht, hs⟩ := hg j hj
  have hn := first_len h0 hf
  have hb := first_byte hf
  have e : bt (tnth L j).txt 0 = bt u 0 := by
    rw [ht]
    exact bt_extract u 0 n 0 hn.2 (by omega)
  rw [e]
  exact ⟨by omega, hb⟩
theorem good_first {L : List Tk} (hg : Good L) {j : Nat} (hj : j < L.length) :
    firstO ((Jn L L.length).extract (place L j) (Jn L L.length).size) = .tok (tnth L j).k (tnth L j).txt.size (tnth L j).num (tnth L j).pt ∧ ((Jn L L.length).extract (place L j) (Jn L L.length).size).extract 0 (tnth L j).txt.size = (tnth L j).txt ∧ place L j + (tnth L j).txt.size ≤ (Jn L L.length).size := by
  obtain ⟨u, n, h0, hf, ht, hs⟩ := hg j hj
  have hn := first_len h0 hf
  have hsz := jn_size L j
  have hle : (Jn L (j + 1)).size ≤ (Jn L L.length).size := by
    have := jn_le L (j + 1) (L.length - (j + 1))
    rwa [show j + 1 + (L.length - (j + 1)) = L.length by omega] at this
  have hu' : ((Jn L L.length).extract (place L j) (Jn L L.length).size).size = (Jn L L.length).size - place L j := by rw [ByteArray.size_extract]; omega
  have hb : ∀ i, i < n → bt ((Jn L L.length).extract (place L j) (Jn L L.length).size) i = bt u i := fun i hi => by
    rw [bt_suffix, jn_tok L hj (by omega), ht, bt_extract u 0 n i hn.2 (by omega), Nat.zero_add]
  have he : bt ((Jn L L.length).extract (place L j) (Jn L L.length).size) n = 32 ∨ bt ((Jn L L.length).extract (place L j) (Jn L L.length).size) n = -1 := by
    rw [bt_suffix, ← hs]
    by_cases h1 : j + 1 < L.length
    · exact .inl (jn_sep L h1)
    · refine .inr (bt_out ?_)
      rw [← hsz, show j + 1 = L.length by omega]
      omega
  rw [hs]
  refine ⟨same_first h0 hf (by omega) hb he, ?_, by omega⟩
  rw [ht]
  exact extract_same hn.2 (by omega) hb
theorem spaced {L : List Tk} (hg : Good L) {a : Nat} {M : List Tk} (h : Toks (Jn L L.length) a M) : ∃ j, j ≤ L.length ∧ M.length = j ∧ (j < L.length → a = place L j) ∧ (j = L.length → a = (Jn L L.length).size) ∧ ∀ i, i < j → SameTk (tnth M i) (tnth L i) := by
  induction h with
  | start a h ha =>
    by_cases h0 : L.length = 0
    · have e : (Jn L L.length).size = 0 := by rw [h0]; rfl
      exact ⟨0, by omega, rfl, fun hh => by omega, fun _ => by omega, fun i hi => absurd hi (by omega)⟩
    · have hb := good_byte hg (j := 0) (by omega)
      have e : bt (Jn L L.length) 0 = bt (tnth L 0).txt 0 := jn_tok L (N := L.length) (j := 0) (i := 0) (by omega) (by omega)
      have ha0 : a = 0 := gap_none h (by rw [e]; exact hb.2.1) (by rw [e]; exact hb.2.2)
      exact ⟨0, by omega, rfl, fun _ => ha0, fun hh => absurd hh.symm h0, fun i hi => absurd hi (by omega)⟩
  | step a M k n v p m h ha hf hm hms ih =>
    obtain ⟨j, hj, hl, h1, h2, hall⟩ := ih
    have hjl : j < L.length := by
      by_cases hh : j < L.length
      · exact hh
      · have := h2 (by omega); omega
    obtain rfl := h1 hjl
    obtain ⟨f1, f2, f3⟩ := good_first hg hjl
    rw [f1] at hf
    injection hf with e1 e2 e3 e4
    subst e1 e2 e3 e4
    have hsz := jn_size L j
    refine ⟨j + 1, by omega, by rw [List.length_append, hl]; rfl, fun hh => ?_, fun hh => ?_, fun i hi => ?_⟩
    · have hb := good_byte hg (j := j + 1) hh
      have hpn := place_next L j
      have b0 : bt ((Jn L L.length).extract (place L j + (tnth L j).txt.size) (Jn L L.length).size) 0 = 32 := by
        rw [bt_suffix, Nat.add_zero]
        exact jn_sep L hh
      have b1 : bt ((Jn L L.length).extract (place L j + (tnth L j).txt.size) (Jn L L.length).size) 1 = bt (tnth L (j + 1)).txt 0 := by
        rw [bt_suffix, ← hpn]
        exact jn_tok L (N := L.length) (j := j + 1) (i := 0) hh (by omega)
      have f3' := (good_first hg hh).2.2
      have := gap_one hm b0 (by rw [b1]; exact hb.2.1) (by rw [b1]; exact hb.2.2) (by rw [ByteArray.size_extract]; omega)
      omega
    · rw [← hh] at hms f3 ⊢
      omega
    · by_cases hi' : i < j
      · rw [tnth_app_lt (by omega)]
        exact hall i hi'
      · obtain rfl : i = j := by omega
        have e : tnth (M ++ [⟨(tnth L i).k, ((Jn L L.length).extract (place L i) (Jn L L.length).size).extract 0 (tnth L i).txt.size, (tnth L i).num, (tnth L i).pt, ((place L i : Nat) : Int)⟩]) i = ⟨(tnth L i).k, ((Jn L L.length).extract (place L i) (Jn L L.length).size).extract 0 (tnth L i).txt.size, (tnth L i).num, (tnth L i).pt, ((place L i : Nat) : Int)⟩ := by
          rw [← hl]
          exact tnth_app_at
        rw [e]
        exact ⟨rfl, f2, rfl, rfl⟩
/-- What Split answers of them. -/
theorem spaced_split {w : World} {B : Nat} {L : List Tk} (hg : Good L) {v : Value} {e at' : Int} (h : SplitIs w B (Jn L L.length) v e at') : ∃ M, GrowT w B v M ∧ e = 0 ∧ at' = 0 ∧ M.length = L.length ∧ ∀ i, i < L.length → SameTk (tnth M i) (tnth L i) := by
  rcases h with ⟨M, hT, hG, rfl, rfl⟩ | ⟨a, M, o, hT, ha, hf, _⟩
  · obtain ⟨j, hj, hl, h1, h2, hall⟩ := spaced hg hT
    have : j = L.length := by
      by_cases hh : j < L.length
      · have e1 := h1 hh
        have f3 := (good_first hg hh).2.2
        have := (good_byte hg hh).1
        omega
      · omega
    subst this
    exact ⟨M, hG, rfl, rfl, hl, hall⟩
  · exfalso
    obtain ⟨j, hj, hl, h1, h2, hall⟩ := spaced hg hT
    by_cases hh : j < L.length
    · obtain rfl := h1 hh
      rw [(good_first hg hh).1] at hf
      cases hf
    · have := h2 (by omega)
      omega
/-- How long it gets. -/
theorem jn_bound {s : ByteArray} {L : List Tk} (h : ∀ j, j < L.length → Stands s (endOf L j) (tnth L j)) : ∀ j, j ≤ L.length → (Jn L j).size ≤ endOf L j + j ∧ (0 < j → endOf L j ≤ s.size)
  | 0, _ => ⟨Nat.le_refl _, fun h => absurd h (by omega)⟩
  | j + 1, hj => by
    have ih := jn_bound h j (by omega)
    obtain ⟨p, n, hp, hap, hn1, hpn, htx, hsz⟩ := h j (by omega)
    have e : endOf L (j + 1) = p + n := by
      unfold endOf
      rw [if_neg (by omega), Nat.add_sub_cancel, hp, hsz]
      omega
    have hs := jn_size L j
    unfold place at hs
    refine ⟨?_, fun _ => by omega⟩
    split at hs <;> omega
end Go.Proofs.YtgiacemmigjloaaDoor
