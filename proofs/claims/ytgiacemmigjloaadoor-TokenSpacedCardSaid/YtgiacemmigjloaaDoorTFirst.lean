/-
  Promise E1, E2: what a text begins with: a token or a fault; the walk of first.
-/
import Derived.Test.YtgiacemmigjloaaDoorTNumQ
import Derived.Test.YtgiacemmigjloaaDoorTWordW
import Derived.Test.YtgiacemmigjloaaDoorTSign
import Derived.Shelf.Strconv.AtoiAll
namespace Go.Proofs.YtgiacemmigjloaaDoor
open Go.RowKit

/-- How many bytes go by, from a place on. -/
def spanF (P : Int → Bool) (s : ByteArray) : Nat → Nat → Nat
  | 0, _ => 0
  | f + 1, k => if k < s.size ∧ P (bt s k) = true then spanF P s f (k + 1) + 1 else 0
def spanN (P : Int → Bool) (s : ByteArray) : Nat := spanF P s s.size 0
theorem spanF_is (P : Int → Bool) (s : ByteArray) : ∀ f k, s.size ≤ k + f → k ≤ s.size → k + spanF P s f k ≤ s.size ∧ (∀ j, j < spanF P s f k → P (bt s (k + j)) = true) ∧ (k + spanF P s f k < s.size → P (bt s (k + spanF P s f k)) = false)
  | 0, k, h, hk => ⟨by simp [spanF]; omega, fun j hj => by simp [spanF] at hj, fun h' => by simp [spanF] at h'; omega⟩
  | f + 1, k, h, hk => by
    by_cases c : k < s.size ∧ P (bt s k) = true
    · have ih := spanF_is P s f (k + 1) (by omega) (by omega)
      have e : spanF P s (f + 1) k = spanF P s f (k + 1) + 1 := by simp only [spanF]; rw [if_pos c]
      rw [e]
      refine ⟨by omega, fun j hj => ?_, fun h' => ?_⟩
      · by_cases hj0 : j = 0
        · subst hj0; exact c.2
        · have := ih.2.1 (j - 1) (by omega)
          rw [show k + 1 + (j - 1) = k + j by omega] at this
          exact this
      · have := ih.2.2 (by omega)
        rw [show k + 1 + spanF P s f (k + 1) = k + (spanF P s f (k + 1) + 1) by omega] at this
        exact this
    · have e : spanF P s (f + 1) k = 0 := by simp only [spanF]; rw [if_neg c]
      rw [e]
      refine ⟨hk, fun j hj => absurd hj (by omega), fun h' => ?_⟩
      rw [Nat.add_zero] at h' ⊢
      cases hp : P (bt s k)
      · rfl
      · exact absurd ⟨h', hp⟩ c
theorem spanN_is (P : Int → Bool) (s : ByteArray) : SpanIs P s (spanN P s) := by
  have h := spanF_is P s s.size 0 (by omega) (by omega)
  simp only [Nat.zero_add] at h
  exact h
theorem spanN_eq {P : Int → Bool} {s : ByteArray} {n : Nat} (h : SpanIs P s n) : n = spanN P s := h.unique (spanN_is P s)
/-- What a text begins with: a token (its kind, its bytes, its number, whether it has a point), or a fault (which, and how far on). -/
inductive Out where
  | tok (k : Int) (n : Nat) (v : Int) (p : Bool)
  | bad (e : Int) (o : Nat)
/-- A text that begins with n digits. -/
def numO (s : ByteArray) (n : Nat) : Out :=
  match Lib.atoiAll (s.extract 0 n).data.toList with
  | .ok u =>
    if 10000000000 < u then .bad 3 0
    else if bt s 0 = 48 ∧ 1 < n then .bad 3 0
    else if bt s n ≠ 46 then .tok 2 n (100 * u) false
    else if spanN digB (s.extract (n + 1) s.size) < 2 then .bad 1 n
    else if 100 * u + (10 * (bt s (n + 1) - 48) + (bt s (n + 2) - 48)) ≤ 1000000000000 then .tok 2 (n + 3) (100 * u + (10 * (bt s (n + 1) - 48) + (bt s (n + 2) - 48))) true
    else .bad 3 0
  | _ => .bad 3 0
def wordO (s : ByteArray) (n : Nat) : Out := if 8 < n then .bad 3 0 else if wordB (s.extract 0 n) = true then .tok 4 n 0 false else .tok 1 n 0 false
def signO (s : ByteArray) : Out := if longB s = true then .tok 3 2 0 false else if signB (bt s 0) = true then .tok 3 1 0 false else .bad 1 0
def firstO (s : ByteArray) : Out := if 0 < spanN letB s then wordO s (spanN letB s) else if 0 < spanN digB s then numO s (spanN digB s) else signO s
/-- How first ends, of a text that stands at a. -/
def outE (s : ByteArray) (a : Int) : Out → Ending
  | .tok k n v p => .returned (tokV k (s.extract 0 n) v p a)
  | .bad e o => .panicked (gone e (a + o))
/-- What lies at strconv.ErrRange. -/
def TabE (w : World) : Prop := ∃ ev, w.cell? ⟨1, 0, none⟩ = some ev ∧ (ev = .nilIface ∨ ∃ te pe, ev = .iface te pe)
theorem TabE.below {w w' : World} (h : TabE w) (hb : Below w.heap.size w w') : TabE w' := by
  obtain ⟨ev, h1, h2⟩ := h
  have hl : 1 < w.heap.size := by
    by_cases hb : 1 < w.heap.size
    · exact hb
    · have : w.heap[(⟨1, 0, none⟩ : Addr).block]? = none := Array.getElem?_eq_none (by simpa using hb)
      simp [World.cell?, this] at h1
  exact ⟨ev, (hb.cell (p := ⟨1, 0, none⟩) hl).trans h1, h2⟩
theorem word_any (s : ByteArray) (a : Int) (w : World) :
    Calls Tryd.prog 28 #[.string s, .int .i64 a] w fun e w' => e = outE s a (wordO s (spanN letB s)) ∧ Below w.heap.size w w' := by
  unfold wordO
  by_cases h8 : 8 < spanN letB s
  · rw [if_pos h8]
    have := word_gone s a _ w (spanN_is letB s) h8
    simpa [outE] using this
  · rw [if_neg h8]
    cases hw : wordB (s.extract 0 (spanN letB s))
    · exact word_name s a _ w (spanN_is letB s) (by omega) hw
    · exact word_word s a _ w (spanN_is letB s) (by omega) hw
theorem sign_any (s : ByteArray) (a : Int) (w : World) (hs : 0 < s.size) :
    Calls Tryd.prog 31 #[.string s, .int .i64 a] w fun e w' => e = outE s a (signO s) ∧ Below w.heap.size w w' := by
  unfold signO
  cases hl : longB s
  · cases hb : signB (bt s 0)
    · simp only [Bool.false_eq_true, if_false, outE]
      have := sign_gone s a w hl hs hb
      simpa using this
    · exact sign_one s a w hl hs hb
  · exact sign_long s a w hl
/-- Digits alone are read, or are too many. -/
theorem digits_parse : ∀ (l : List UInt8) (acc : Nat), (∀ c ∈ l, 48 ≤ c.toNat ∧ c.toNat ≤ 57) → (∃ u : Nat, Lib.parseUint10 acc l = .ok u) ∨ Lib.parseUint10 acc l = .range
  | [], acc, _ => .inl ⟨acc, rfl⟩
  | c :: r, acc, h => by
    have hc := h c (List.mem_cons_self ..)
    simp only [Lib.parseUint10]
    rw [if_pos hc]
    split
    · exact .inr rfl
    · split
      · exact .inr rfl
      · exact digits_parse r _ (fun x hx => h x (List.mem_cons_of_mem _ hx))
theorem digits_atoi {l : List UInt8} (h0 : l ≠ []) (h : ∀ c ∈ l, 48 ≤ c.toNat ∧ c.toNat ≤ 57) : (∃ u : Int, 0 ≤ u ∧ Lib.atoiAll l = .ok u) ∨ Lib.atoiAll l = .range := by
  cases l with
  | nil => exact absurd rfl h0
  | cons c r =>
    have hc := h c (List.mem_cons_self ..)
    have n1 : ¬ (c.toNat = 43) := by omega
    have n2 : ¬ (c.toNat = 45) := by omega
    unfold Lib.atoiAll
    simp only [n1, n2, or_self, if_false, not_false_eq_true, true_and, false_and]
    unfold Lib.parseMag
    rw [if_neg (by simp)]
    rcases digits_parse (c :: r) 0 h with ⟨u, hu⟩ | hu
    · rw [hu]
      dsimp only
      split
      · exact .inr rfl
      · exact .inl ⟨u, by omega, rfl⟩
    · rw [hu]
      exact .inr rfl
theorem mem_bt {s : ByteArray} {c : UInt8} (h : c ∈ s.data.toList) : ∃ j, j < s.size ∧ bt s j = (c.toNat : Int) := by
  obtain ⟨j, hj, rfl⟩ := List.mem_iff_getElem.1 h
  have hj' : j < s.size := by rw [size_toL]; exact hj
  exact ⟨j, hj', by rw [bt_in hj']; rfl⟩
theorem span_atoi {s : ByteArray} {n : Nat} (hn : SpanIs digB s n) (h0 : 0 < n) : (∃ u : Int, 0 ≤ u ∧ Lib.atoiAll (s.extract 0 n).data.toList = .ok u) ∨ Lib.atoiAll (s.extract 0 n).data.toList = .range := by
  refine digits_atoi ?_ fun c hc => ?_
  · intro e
    have : (s.extract 0 n).size = 0 := by rw [size_toL, e]; rfl
    rw [ByteArray.size_extract] at this
    have := hn.1
    omega
  · obtain ⟨j, hj, hb⟩ := mem_bt hc
    rw [ByteArray.size_extract] at hj
    have := hn.1
    rw [bt_extract s 0 n j hn.1 (by omega)] at hb
    have hd := hn.2.1 (0 + j) (by omega)
    rw [hb] at hd
    have := of_decide_eq_true hd
    omega
theorem reads_ok {s : ByteArray} {n : Nat} {u : Int} (h : Lib.atoiAll (s.extract 0 n).data.toList = .ok u) (hs : (s.extract 0 n).size ≤ 4000) : Reads s n u := fun w => by
  refine (sh_strconv_Atoi_ok (s.extract 0 n) (by omega) u h w).mono ?_
  rintro e w' ⟨rfl, hw⟩
  refine ⟨rfl, ?_⟩
  rcases hw with rfl | ⟨t, rfl⟩
  · exact Below.refl _ _
  · exact Lib.bytesWorld_below _ _ _
set_option maxRecDepth 100000 in
set_option maxHeartbeats 1000000 in
theorem number_err (s : ByteArray) (a : Int) (n : Nat) (w : World) (hn : SpanIs digB s n) (hs : s.size ≤ 4000) (h : Lib.atoiAll (s.extract 0 n).data.toList = .range) (hT : TabE w) :
    Calls Tryd.prog 30 #[.string s, .int .i64 a] w fun e w' => e = .panicked (gone 3 a) ∧ Below w.heap.size w w' := by
  have HN := Lib.hid hn
  have hle := hn.1
  have HT := Lib.hid hT
  have HE := Lib.hid h
  have HZ := Lib.hid ((Below.refl w.heap.size w).alloc (Nat.le_refl _) (.cells #[.int .i64 0, .string ByteArray.empty, .int .i64 0, .bool false, .int .i64 0] 32))
  clear hn hT h
  go_enter Tryd.func30, Tryd.ntmps30
  go_wp2_with fail
  refine (digits_any s _).mono ?_
  rintro e w1 ⟨m, rfl, h1, h2⟩
  obtain rfl := h1.unique HN.out
  have HB1 := Lib.hid (HZ.out.trans (h2.mono HZ.out.size))
  clear h1 h2
  have hle' : (m : Int) ≤ (s.size : Int) := by omega
  go_wp2_with fail
  obtain ⟨ev, hev, hk⟩ := HT.out.below HB1.out
  refine (sh_strconv_Atoi_range (s.extract 0 m) (by rw [ByteArray.size_extract]; omega) HE.out ev _ hev hk).mono ?_
  rintro e w2 ⟨N, rfl, _, _, h2⟩
  have HB2 := Lib.hid (HB1.out.trans (h2.mono HB1.out.size))
  clear h2 hev hk
  go_wp2_with fail
  refine (giveUp_any _ _ _).mono ?_
  rintro e w3 ⟨rfl, rfl⟩
  go_wp2_with fail
  exact ⟨rfl, rfl, HB2.out⟩
end Go.Proofs.YtgiacemmigjloaaDoor
