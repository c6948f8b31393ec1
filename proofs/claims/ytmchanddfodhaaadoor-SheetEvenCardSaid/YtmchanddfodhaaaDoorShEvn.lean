/-
  Promise U4: each line of a box has as many letters: pure.
-/
import Derived.Test.YtmchanddfodhaaaDoorShBTx
import Derived.Test.YtmchanddfodhaaaDoorShCut
namespace Go.Proofs.YtmchanddfodhaaaDoor
open Go.RowKit Go.Shelf Mny

/-- Does a byte begin a letter? How many do? -/
def leadB (c : UInt8) : Bool := decide (c.toNat < 128) || decide (192 ≤ c.toNat)
def leads (l : List UInt8) : Nat := l.countP leadB
theorem leads_append (a b : List UInt8) : leads (a ++ b) = leads a + leads b := List.countP_append
theorem leads_rep {c : UInt8} (h : leadB c = true) : ∀ r, leads (List.replicate r c) = r
  | 0 => rfl
  | r + 1 => by
    have := leads_rep h r
    unfold leads at this ⊢
    rw [List.replicate_succ, List.countP_cons, this, h]
    rfl
theorem letN_form (s : ByteArray) (p : Nat) : letN s p = 0 ∨ (letN s p = 1 ∧ bt s p < 128) ∨ (2 ≤ letN s p ∧ letN s p ≤ 4 ∧ 192 ≤ bt s p ∧ ∀ i, 1 ≤ i → i < letN s p → contB s (p + i) = true) := by
  unfold letN
  by_cases hA : bt s p < 128
  · rw [if_pos hA]; exact .inr (.inl ⟨rfl, hA⟩)
  · rw [if_neg hA]
    by_cases hB : 192 ≤ bt s p ∧ bt s p < 224
    · rw [if_pos hB]
      split
      · next h => exact .inr (.inr ⟨by omega, by omega, hB.1, fun i h1 h2 => by obtain rfl : i = 1 := by omega
                                                                                exact h.1⟩)
      · exact .inl rfl
    · rw [if_neg hB]
      by_cases hC : 224 ≤ bt s p ∧ bt s p < 240
      · rw [if_pos hC]
        split
        · next h => exact .inr (.inr ⟨by omega, by omega, by omega, fun i h1 h2 => by
            have : i = 1 ∨ i = 2 := by omega
            rcases this with rfl | rfl
            · exact h.1
            · exact h.2.1⟩)
        · exact .inl rfl
      · rw [if_neg hC]
        by_cases hD : 240 ≤ bt s p ∧ bt s p < 248
        · rw [if_pos hD]
          split
          · next h => exact .inr (.inr ⟨by omega, by omega, by omega, fun i h1 h2 => by
              have : i = 1 ∨ i = 2 ∨ i = 3 := by omega
              rcases this with rfl | rfl | rfl
              · exact h.1
              · exact h.2.1
              · exact h.2.2.1⟩)
          · exact .inl rfl
        · rw [if_neg hD]; exact .inl rfl
theorem lead_num {x : Int} (h0 : 0 ≤ x) (h1 : x ≤ 255) : leadB x.toNat.toUInt8 = (decide (x < 128) || decide (192 ≤ x)) := by
  have e : x.toNat.toUInt8.toNat = x.toNat := by
    show x.toNat % 256 = x.toNat
    omega
  unfold leadB
  rw [e, Bool.eq_iff_iff]
  simp
  omega
theorem cont_num {s : ByteArray} {j : Nat} (h : contB s j = true) : leadB (bt s j).toNat.toUInt8 = false := by
  obtain ⟨_, h1, h2⟩ := contB_lt h
  rw [lead_num (by omega) (by omega), decide_eq_false (by omega), decide_eq_false (by omega)]
  rfl
theorem piece_leads {s : ByteArray} {p : Nat} (h : p < s.size) : leads (piece s p) = 1 := by
  have hb0 : 0 ≤ bt s p := by rw [bt_in h]; omega
  have hb1 := (bt_hi s p).2
  have hle := step_le h
  rcases letN_form s p with h1 | ⟨h1, h2⟩ | ⟨h1, h2, h3, h4⟩
  · have : piece s p = [63] := by unfold piece; rw [if_pos h1]
    rw [this]
    decide
  · have e : stepN s p = 1 := by unfold stepN; rw [h1]; rfl
    rw [e] at hle
    have : piece s p = [(bt s p).toNat.toUInt8] := by unfold piece; rw [h1, if_neg (by omega), bytesAt_eq hle]; rfl
    rw [this]
    unfold leads
    rw [List.countP_cons, lead_num hb0 hb1, decide_eq_true h2]
    rfl
  · have e : stepN s p = letN s p := by unfold stepN; rw [if_neg (by omega)]
    rw [e] at hle
    have hp : piece s p = (nums s p (letN s p)).map fun x => x.toNat.toUInt8 := by unfold piece; rw [if_neg (by omega), bytesAt_eq hle]
    have hl0 : leadB (bt s p).toNat.toUInt8 = true := by rw [lead_num hb0 hb1, decide_eq_true h3, Bool.or_true]
    rw [hp]
    have hk : letN s p = 2 ∨ letN s p = 3 ∨ letN s p = 4 := by omega
    rcases hk with hk | hk | hk
    · have c1 := cont_num (h4 1 (by omega) (by omega))
      rw [hk]
      show leads [(bt s p).toNat.toUInt8, (bt s (p + 1)).toNat.toUInt8] = 1
      simp [leads, hl0, c1]
    · have c1 := cont_num (h4 1 (by omega) (by omega))
      have c2 := cont_num (h4 2 (by omega) (by omega))
      rw [hk]
      show leads [(bt s p).toNat.toUInt8, (bt s (p + 1)).toNat.toUInt8, (bt s (p + 2)).toNat.toUInt8] = 1
      simp [leads, hl0, c1, c2]
    · have c1 := cont_num (h4 1 (by omega) (by omega))
      have c2 := cont_num (h4 2 (by omega) (by omega))
      have c3 := cont_num (h4 3 (by omega) (by omega))
      rw [hk]
      show leads [(bt s p).toNat.toUInt8, (bt s (p + 1)).toNat.toUInt8, (bt s (p + 2)).toNat.toUInt8, (bt s (p + 3)).toNat.toUInt8] = 1
      simp [leads, hl0, c1, c2, c3]
theorem piece_no {s : ByteArray} {p : Nat} (h : p < s.size) (hh : hidK s s.size = false) : (10 : UInt8) ∉ piece s p := by
  have hle := step_le h
  unfold piece
  by_cases h1 : letN s p = 0
  · rw [if_pos h1]; decide
  · have e : stepN s p = letN s p := by unfold stepN; rw [if_neg h1]
    rw [e] at hle
    rw [if_neg h1]
    intro hm
    obtain ⟨i, hi, hx⟩ := List.mem_iff_getElem.1 hm
    rw [bytesAt_len hle] at hi
    have hg := bytesAt_get hle hi
    rw [hx] at hg
    have : hidK s s.size = true := (hidK_iff s s.size).2 ⟨p + i, by omega, by rw [← hg]; decide⟩
    rw [this] at hh
    cases hh
theorem rest_leads (s : ByteArray) (hh : hidK s s.size = false) : ∀ (n p : Nat), s.size - p = n → leads (restS s p) = restC s p ∧ (10 : UInt8) ∉ restS s p := by
  intro n
  induction n using Nat.strongRecOn with
  | _ n ih =>
    intro p hn
    by_cases h : p < s.size
    · obtain ⟨h1, h2⟩ := rest_step h
      have h3 := stepN_pos s p
      obtain ⟨i1, i2⟩ := ih (s.size - (p + stepN s p)) (by omega) (p + stepN s p) rfl
      rw [h1, h2, leads_append, piece_leads h, i1]
      refine ⟨rfl, fun q => ?_⟩
      rcases List.mem_append.1 q with q | q
      · exact piece_no h hh q
      · exact i2 q
    · obtain ⟨h1, h2⟩ := rest_end h
      rw [h1, h2]
      exact ⟨rfl, by simp⟩
/-- What the law asks of the bytes that are left: f letters the line ahead had (below 0: there is none), m lines so far, k letters of this line. -/
def sc (tot : Nat) : List UInt8 → Int → Nat → Nat → Bool
  | [], _, m, k => decide (k = 0) && decide (m = tot)
  | c :: t, f, m, k => if c = 10 then (if 0 ≤ f ∧ (k : Int) ≠ f then false else sc tot t (k : Int) (m + 1) 0) else sc tot t f m (if leadB c = true then k + 1 else k)
theorem sc_body (tot : Nat) : ∀ (a t : List UInt8) (f : Int) (m k : Nat), (10 : UInt8) ∉ a → sc tot (a ++ t) f m k = sc tot t f m (k + leads a)
  | [], t, f, m, k, _ => by simp [leads]
  | c :: a, t, f, m, k, h => by
    have hc : ¬ c = 10 := fun e => h (by simp [e])
    rw [List.cons_append, sc, if_neg hc, sc_body tot a t f m _ (fun q => h (by simp [q]))]
    congr 1
    unfold leads
    rw [List.countP_cons]
    split <;> omega
theorem sc_feed (tot W : Nat) : ∀ (bs : List (List UInt8)) (f : Int) (m : Nat), (∀ b ∈ bs, (10 : UInt8) ∉ b ∧ leads b = W) → (f < 0 ∨ f = W) → m + bs.length = tot → sc tot (feedL bs) f m 0 = true
  | [], f, m, _, _, h => by simp [feedL, sc] at h ⊢; exact h
  | b :: bs, f, m, h, hf, ht => by
    obtain ⟨h1, h2⟩ := h b (by simp)
    rw [feedL, sc_body tot b _ f m 0 h1, h2, Nat.zero_add, sc, if_pos rfl, if_neg (by omega)]
    exact sc_feed tot W bs (W : Int) (m + 1) (fun x hx => h x (by simp [hx])) (.inr rfl) (by simp at ht; omega)
def edgeB (wd : Nat) : List UInt8 := [43, 45] ++ List.replicate wd 45 ++ [45, 43]
def rowB (s : ByteArray) (wd : Nat) : List UInt8 := [124, 32] ++ shownL s ++ List.replicate (wd - lets s) 32 ++ [32, 124]
def rowsB (l : List ByteArray) (wd : Nat) : Nat → List (List UInt8)
  | 0 => []
  | k + 1 => rowsB l wd k ++ [rowB (snt l k) wd]
theorem rowsB_len (l : List ByteArray) (wd : Nat) : ∀ k, (rowsB l wd k).length = k
  | 0 => rfl
  | k + 1 => by simp [rowsB, rowsB_len l wd k]
theorem rows_feed (l : List ByteArray) (wd : Nat) : ∀ k, rowsL l wd k = feedL (rowsB l wd k)
  | 0 => rfl
  | k + 1 => by
    rw [rowsL, rowsB, feedL_append, rows_feed l wd k]
    simp [feedL, rowL, rowB]
theorem box_feed (l : List ByteArray) (n : Nat) : boxL l n = feedL ([edgeB (wideK l n)] ++ rowsB l (wideK l n) n ++ [edgeB (wideK l n)]) := by
  rw [feedL_append, feedL_append, ← rows_feed]
  unfold boxL
  simp [feedL, edgeL, edgeB]
theorem edgeB_ok (wd : Nat) : (10 : UInt8) ∉ edgeB wd ∧ leads (edgeB wd) = wd + 4 := by
  constructor
  · intro h
    simp [edgeB, List.mem_replicate] at h
  · unfold edgeB
    rw [leads_append, leads_append, leads_rep (by decide)]
    have e1 : leads [43, 45] = 2 := by decide
    have e2 : leads [45, 43] = 2 := by decide
    omega
theorem rowB_ok {s : ByteArray} {wd : Nat} (hh : hidT s = false) (hw : lets s ≤ wd) : (10 : UInt8) ∉ rowB s wd ∧ leads (rowB s wd) = wd + 4 := by
  obtain ⟨h1, h2⟩ := rest_leads s hh s.size 0 rfl
  constructor
  · intro h
    unfold rowB at h
    simp only [List.mem_append, List.mem_replicate] at h
    rcases h with ((h | h) | h) | h
    · revert h; decide
    · exact h2 h
    · exact absurd h.2 (by decide)
    · revert h; decide
  · unfold rowB
    rw [leads_append, leads_append, leads_append, leads_rep (by decide)]
    have e1 : leads [124, 32] = 2 := by decide
    have e2 : leads [32, 124] = 2 := by decide
    have e3 : leads (shownL s) = lets s := h1
    omega
theorem rowsB_ok {l : List ByteArray} {wd : Nat} : ∀ {k : Nat}, (∀ j, j < k → hidT (snt l j) = false ∧ lets (snt l j) ≤ wd) → ∀ b ∈ rowsB l wd k, (10 : UInt8) ∉ b ∧ leads b = wd + 4
  | 0, _, b, h => by simp [rowsB] at h
  | k + 1, hh, b, h => by
    rw [rowsB, List.mem_append] at h
    rcases h with h | h
    · exact rowsB_ok (fun j hj => hh j (by omega)) b h
    · obtain rfl : b = rowB (snt l k) wd := by simpa using h
      exact rowB_ok (hh k (by omega)).1 (hh k (by omega)).2
theorem box_even {l : List ByteArray} {n : Nat} (h : boxE l n = 0) : sc (n + 2) (boxL l n) (-1) 0 0 = true := by
  obtain ⟨_, _, hh⟩ := boxE_zero h
  rw [box_feed]
  refine sc_feed (n + 2) (wideK l n + 4) _ (-1) 0 ?_ (.inl (by omega)) (by simp [rowsB_len])
  intro b hb
  simp only [List.mem_append, List.mem_cons, List.not_mem_nil, or_false] at hb
  rcases hb with (hb | hb) | hb
  · rw [hb]; exact edgeB_ok _
  · exact rowsB_ok (fun j hj => ⟨anyT_false hh j hj, wideK_mono hj⟩) b hb
  · rw [hb]; exact edgeB_ok _
end Go.Proofs.YtmchanddfodhaaaDoor
