/-
  Promise U1: sheets: what is wrong with amounts, the lines, the text as a list of bytes; the walk of the reference's AmountAt.
-/
import Derived.Test.YtmchanddfodhaaaDoorSAm
import Derived.Test.YtmchanddfodhaaaDoorMText
namespace Go.Proofs.YtmchanddfodhaaaDoor
open Go.RowKit Mny

theorem eqS (a b : ByteArray) : (a.toList == b.toList) = decide (a.data = b.data) := by
  rw [ByteArray.toList_eq, ByteArray.toList_eq, Bool.eq_iff_iff]
  simp
def sumT : ByteArray := ⟨#[115, 117, 109]⟩
def nilT : ByteArray := ⟨#[]⟩
/-- What the first k amounts come to. -/
def sumA (l : List Am) : Nat → Int
  | 0 => 0
  | k + 1 => sumA l k + (anth l k).mon
/-- What is wrong with one amount. -/
def wrA (r : Am) : Int := if namB r.name = true ∧ (r.name.toList == [115, 117, 109]) = false then (if monB r.mon = true then 0 else 3) else 1
theorem wrA_nam {r : Am} (h : namB r.name = false) : wrA r = 1 := by unfold wrA; rw [if_neg (by rw [h]; simp)]
theorem wrA_sum {r : Am} (h : (r.name.toList == [115, 117, 109]) = true) : wrA r = 1 := by unfold wrA; rw [if_neg (by rw [h]; simp)]
theorem wrA_mon {r : Am} (h1 : namB r.name = true) (h2 : (r.name.toList == [115, 117, 109]) = false) (h3 : monB r.mon = false) : wrA r = 3 := by unfold wrA; rw [if_pos ⟨h1, h2⟩, if_neg (by rw [h3]; simp)]
theorem wrA_ok {r : Am} (h1 : namB r.name = true) (h2 : (r.name.toList == [115, 117, 109]) = false) (h3 : monB r.mon = true) : wrA r = 0 := by unfold wrA; rw [if_pos ⟨h1, h2⟩, if_pos h3]
theorem wrA_zero {r : Am} (h : wrA r = 0) : namB r.name = true ∧ (r.name.toList == [115, 117, 109]) = false ∧ monB r.mon = true := by
  unfold wrA at h
  split at h
  · next h1 =>
    split at h
    · next h2 => exact ⟨h1.1, h1.2, h2⟩
    · omega
  · omega
/-- What is wrong first with the first k. -/
def wrs (l : List Am) : Nat → Int
  | 0 => 0
  | k + 1 => if wrs l k = 0 then wrA (anth l k) else wrs l k
theorem wrs_ok {l : List Am} : ∀ {k : Nat}, (∀ j, j < k → wrA (anth l j) = 0) → wrs l k = 0
  | 0, _ => rfl
  | k + 1, h => by rw [wrs, if_pos (wrs_ok fun j hj => h j (by omega)), h k (by omega)]
theorem wrs_all {l : List Am} : ∀ {k : Nat}, wrs l k = 0 → ∀ j, j < k → wrA (anth l j) = 0
  | 0, _, j, hj => by omega
  | k + 1, h, j, hj => by
    rw [wrs] at h
    split at h
    · next h0 =>
      by_cases e : j = k
      · subst e; exact h
      · exact wrs_all h0 j (by omega)
    · next h0 => exact absurd h h0
theorem wrs_at {l : List Am} {k : Nat} (h : ∀ j, j < k → wrA (anth l j) = 0) (hk : wrA (anth l k) ≠ 0) : ∀ n, k < n → wrs l n = wrA (anth l k)
  | 0, hn => by omega
  | n + 1, hn => by
    by_cases e : n = k
    · subst e; rw [wrs, if_pos (wrs_ok h)]
    · rw [wrs, wrs_at h hk n (by omega), if_neg hk]
/-- Of several alike the first one, and the last one. -/
def lastN (f : Nat → ByteArray) : Nat → ByteArray → Option Nat
  | 0, _ => none
  | k + 1, s => if (f k).data = s.data then some k else lastN f k s
def optI : Option Nat → Int | some v => v | none => -1
def firstN (f : Nat → ByteArray) : Nat → ByteArray → Option Nat
  | 0, _ => none
  | k + 1, s => match firstN f k s with | some v => some v | none => if (f k).data = s.data then some k else none
theorem firstN_miss {f : Nat → ByteArray} {k : Nat} {s : ByteArray} (h : firstN f k s = none) (hn : (f k).data ≠ s.data) : firstN f (k + 1) s = none := by simp [firstN, h, hn]
theorem firstN_hit {f : Nat → ByteArray} {n k : Nat} {s : ByteArray} (hk : k < n) (h : firstN f k s = none) (he : (f k).data = s.data) : firstN f n s = some k := by
  induction n with
  | zero => omega
  | succ q ih =>
    by_cases e : k = q
    · subst e; simp [firstN, h, he]
    · simp [firstN, ih (by omega)]
theorem firstN_some {f : Nat → ByteArray} {n : Nat} {s : ByteArray} : (firstN f n s).isSome = (lastN f n s).isSome := by
  induction n with
  | zero => rfl
  | succ q ih =>
    by_cases e : (f q).data = s.data
    · simp only [lastN, e, if_true, firstN]
      cases firstN f q s <;> rfl
    · simp only [lastN, firstN, if_neg e]
      rw [← ih]
      cases firstN f q s <;> rfl
theorem firstN_lt {f : Nat → ByteArray} {s : ByteArray} : ∀ {n v : Nat}, firstN f n s = some v → v < n
  | 0, v, h => by cases h
  | n + 1, v, h => by
    rw [firstN] at h
    split at h
    · next u hu => injection h with h; have := firstN_lt hu; omega
    · split at h
      · injection h with h; omega
      · cases h
theorem firstN_more {f : Nat → ByteArray} {s : ByteArray} {k v : Nat} (h : firstN f k s = some v) : ∀ n, k ≤ n → firstN f n s = some v
  | 0, hn => by
    obtain rfl : k = 0 := by omega
    exact h
  | n + 1, hn => by
    by_cases e : k = n + 1
    · subst e; exact h
    · rw [firstN, firstN_more h n (by omega)]
/-- Is there one ahead of place i by the same name? -/
theorem ahead_iff {f : Nat → ByteArray} {n i : Nat} (hi : i < n) : decide (optI (firstN f n (f i)) < (i : Int)) = (lastN f i (f i)).isSome := by
  rw [← firstN_some]
  cases h : firstN f i (f i) with
  | none =>
    rw [firstN_hit hi h rfl]
    simp [optI]
  | some v =>
    rw [firstN_more h n (by omega)]
    have := firstN_lt h
    simp [optI, this]
/-- How many names there are among the first k; is one there twice? -/
def cntN (f : Nat → ByteArray) : Nat → Nat
  | 0 => 0
  | k + 1 => if (lastN f k (f k)).isSome then cntN f k else cntN f k + 1
def twB (f : Nat → ByteArray) : Nat → Bool
  | 0 => false
  | k + 1 => twB f k || (lastN f k (f k)).isSome
theorem cntN_le (f : Nat → ByteArray) : ∀ k, cntN f k ≤ k
  | 0 => Nat.le_refl _
  | k + 1 => by have := cntN_le f k; rw [cntN]; split <;> omega
theorem cntN_tw (f : Nat → ByteArray) : ∀ k, decide (cntN f k < k) = twB f k
  | 0 => rfl
  | k + 1 => by
    have h1 := cntN_tw f k
    have h2 := cntN_le f k
    rw [cntN, twB, ← h1]
    cases hs : (lastN f k (f k)).isSome
    · simp
    · simp
      omega
def nmA (l : List Am) (j : Nat) : ByteArray := (anth l j).name
def widB (x : Int) : Bool := decide (20 ≤ x ∧ x ≤ 60)
/-- What is wrong ahead of how long lines are. -/
def chkE (l : List Am) (n : Nat) (x : Int) : Int :=
  if widB x = true then (if 30 < n then 2 else if wrs l n = 0 then (if twB (nmA l) n = true then 6 else if monB (sumA l n) = true then 0 else 3) else wrs l n) else 3
theorem chkE_wid {l : List Am} {n : Nat} {x : Int} (h : widB x = false) : chkE l n x = 3 := by unfold chkE; rw [h]; rfl
theorem chkE_many {l : List Am} {n : Nat} {x : Int} (h : widB x = true) (h1 : 30 < n) : chkE l n x = 2 := by unfold chkE; rw [if_pos h, if_pos h1]
theorem chkE_at {l : List Am} {n k : Nat} {x : Int} (h : widB x = true) (h1 : ¬ 30 < n) (h2 : ∀ j, j < k → wrA (anth l j) = 0) (h3 : wrA (anth l k) ≠ 0) (hk : k < n) : chkE l n x = wrA (anth l k) := by
  unfold chkE
  rw [if_pos h, if_neg h1, wrs_at h2 h3 n hk, if_neg h3]
theorem chkE_rest {l : List Am} {n : Nat} {x : Int} (h : widB x = true) (h1 : ¬ 30 < n) (h2 : ∀ j, j < n → wrA (anth l j) = 0) : chkE l n x = if twB (nmA l) n = true then 6 else if monB (sumA l n) = true then 0 else 3 := by
  unfold chkE
  rw [if_pos h, if_neg h1, if_pos (wrs_ok h2)]
theorem chkE_zero {l : List Am} {n : Nat} {x : Int} (h : chkE l n x = 0) : (20 ≤ x ∧ x ≤ 60) ∧ n ≤ 30 ∧ (∀ j, j < n → wrA (anth l j) = 0) ∧ twB (nmA l) n = false ∧ monB (sumA l n) = true := by
  unfold chkE at h
  split at h
  · next h0 =>
    split at h
    · omega
    · next h1 =>
      split at h
      · next h2 =>
        split at h
        · omega
        · next h3 =>
          split at h
          · next h4 => exact ⟨of_decide_eq_true h0, by omega, wrs_all h2, by simpa using h3, h4⟩
          · omega
      · next h2 => exact absurd h h2
  · omega
theorem sumA_bd {l : List Am} : ∀ {k : Nat}, (∀ j, j < k → monB (anth l j).mon = true) → -1000000000000 * (k : Int) ≤ sumA l k ∧ sumA l k ≤ 1000000000000 * (k : Int)
  | 0, _ => by simp [sumA]
  | k + 1, h => by
    have h1 := sumA_bd (l := l) (k := k) fun j hj => h j (by omega)
    have h2 : -1000000000000 ≤ (anth l k).mon ∧ (anth l k).mon ≤ 1000000000000 := of_decide_eq_true (h k (by omega))
    rw [sumA]
    omega
/-- The amounts and their sum. -/
def withSum (l : List Am) (n : Nat) : List Am := l ++ [⟨sumT, sumA l n⟩]
theorem withSum_len (l : List Am) (n : Nat) : (withSum l n).length = l.length + 1 := by simp [withSum]
theorem withSum_at {l : List Am} {n j : Nat} (h : j < l.length) : anth (withSum l n) j = anth l j := by
  simp [anth, withSum, List.getElem?_append_left h]
theorem withSum_end {l : List Am} {n : Nat} (hn : l.length = n) : anth (withSum l n) n = ⟨sumT, sumA l n⟩ := by
  subst hn
  simp [anth, withSum]
/-- How many dots a line has; is it short enough? -/
def dotsA (r : Am) (x : Int) : Int := x - (r.name.size : Int) - ((printL r.mon).length : Int)
def fitA (r : Am) (x : Int) : Bool := decide (2 ≤ dotsA r x)
def lineL (r : Am) (x : Int) : List UInt8 := r.name.data.toList ++ List.replicate (dotsA r x).toNat 46 ++ printL r.mon ++ [10]
def linesL (l : List Am) (x : Int) : Nat → List UInt8
  | 0 => []
  | k + 1 => linesL l x k ++ lineL (anth l k) x
theorem lineL_len {r : Am} {x : Int} (h : fitA r x = true) : ((lineL r x).length : Int) = x + 1 := by
  have h1 : 2 ≤ dotsA r x := of_decide_eq_true h
  have h2 : r.name.data.toList.length = r.name.size := (size_toList _).symm
  unfold lineL
  simp only [List.length_append, List.length_replicate, List.length_cons, List.length_nil, h2]
  unfold dotsA at h1 ⊢
  omega
theorem linesL_len {l : List Am} {x : Int} : ∀ {k : Nat}, (∀ j, j < k → fitA (anth l j) x = true) → ((linesL l x k).length : Int) = (k : Int) * (x + 1)
  | 0, _ => by simp [linesL]
  | k + 1, h => by
    have h1 := linesL_len (l := l) (x := x) (k := k) fun j hj => h j (by omega)
    have h2 := lineL_len (h k (by omega))
    rw [linesL, List.length_append]
    push_cast
    rw [h1, h2, Int.add_mul]
    omega
/-- Are the first k lines short enough? -/
def fits (l : List Am) (x : Int) : Nat → Bool
  | 0 => true
  | k + 1 => fits l x k && fitA (anth l k) x
theorem fits_of {l : List Am} {x : Int} : ∀ {k : Nat}, (∀ j, j < k → fitA (anth l j) x = true) → fits l x k = true
  | 0, _ => rfl
  | k + 1, h => by rw [fits, fits_of fun j hj => h j (by omega), h k (by omega)]; rfl
theorem fits_all {l : List Am} {x : Int} : ∀ {k : Nat}, fits l x k = true → ∀ j, j < k → fitA (anth l j) x = true
  | 0, _, j, hj => by omega
  | k + 1, h, j, hj => by
    rw [fits, Bool.and_eq_true] at h
    by_cases e : j = k
    · subst e; exact h.2
    · exact fits_all h.1 j (by omega)
theorem fits_not {l : List Am} {x : Int} {k n : Nat} (hk : k < n) (h : fitA (anth l k) x = false) : fits l x n = false := by
  rw [Bool.eq_false_iff]
  intro e
  rw [fits_all e k hk] at h
  cases h
/-- What Print says, and the text. -/
def shE (l : List Am) (n : Nat) (x : Int) : Int := if chkE l n x = 0 then (if fits (withSum l n) x (n + 1) = true then 0 else 2) else chkE l n x
def sheetL (l : List Am) (n : Nat) (x : Int) : List UInt8 := linesL (withSum l n) x (n + 1)
def shT (l : List Am) (n : Nat) (x : Int) : ByteArray := if shE l n x = 0 then ⟨(sheetL l n x).toArray⟩ else nilT
theorem shE_bad {l : List Am} {n : Nat} {x : Int} (h : chkE l n x ≠ 0) : shE l n x = chkE l n x ∧ shT l n x = nilT := by
  have e : shE l n x = chkE l n x := by unfold shE; rw [if_neg h]
  exact ⟨e, by unfold shT; rw [e, if_neg h]⟩
theorem shE_long {l : List Am} {n : Nat} {x : Int} (h : chkE l n x = 0) (h2 : fits (withSum l n) x (n + 1) = false) : shE l n x = 2 ∧ shT l n x = nilT := by
  have e : shE l n x = 2 := by unfold shE; rw [if_pos h, h2]; rfl
  exact ⟨e, by unfold shT; rw [e]; rfl⟩
theorem shE_ok {l : List Am} {n : Nat} {x : Int} (h : chkE l n x = 0) (h2 : fits (withSum l n) x (n + 1) = true) : shE l n x = 0 ∧ shT l n x = ⟨(sheetL l n x).toArray⟩ := by
  have e : shE l n x = 0 := by unfold shE; rw [if_pos h, h2]; rfl
  exact ⟨e, by unfold shT; rw [e]; rfl⟩
set_option maxRecDepth 100000 in
set_option maxHeartbeats 2000000 in
theorem amountAt_ref (a : Option Addr) (n cap : Nat) (l : List Am) (s : ByteArray) (w : World) (hc : CameA w a l) (hn : l.length = n) (hm : n ≤ maxLen) :
    Calls Tryd.prog 25 #[.slice a n cap, .string s] w fun e w' => e = .returned (.int .i64 (optI (firstN (fun j => (anth l j).name) n s))) ∧ Below w.heap.size w w' := by
  have hm' : n ≤ 9223372036854775807 := by unfold maxLen at hm; omega
  have HO := Lib.hid (fun h0 => hc.open hn h0)
  clear hm hc
  go_enter Tryd.func25, Tryd.ntmps25
  go_wp2_with fail
  go_loopw [5] (fun i wr => ∃ q : Nat, q ≤ n ∧ i = .int .i64 q ∧ firstN (fun j => (anth l j).name) q s = none ∧ Below w.heap.size w wr) (fun i _ => n - (intOf i).toNat)
  case atStart => exact ⟨0, Nat.zero_le _, rfl, rfl, Below.refl _ _⟩
  case round =>
    obtain ⟨q, hq, rfl, hf, hb⟩ := hrel
    have HF := Lib.hid hf
    have HB := Lib.hid hb
    clear hf hb
    by_cases hlt : q < n
    · have hlt' : (q : Int) < (n : Int) := by omega
      obtain ⟨b, off, rfl, hcell⟩ := HO.out (by omega)
      obtain ⟨x0, x1⟩ := hcell wr HB.out q hlt
      clear hcell
      by_cases e : (anth l q).name.data = s.data
      · have hE : ((anth l q).name.toList == s.toList) = true := by rw [eqS, decide_eq_true e]
        have HR : Hid (optI (firstN (fun j => (anth l j).name) n s) = q) := by unfold Hid; rw [firstN_hit (f := fun j => (anth l j).name) hlt HF.out e]; rfl
        go_wp2_with fail
        go_ret
        exact ⟨kret_int HR.out.symm, HB.out⟩
      · have hE : ((anth l q).name.toList == s.toList) = false := by rw [eqS, decide_eq_false e]
        have HN : Hid (firstN (fun j => (anth l j).name) (q + 1) s = none) := firstN_miss HF.out e
        go_wp2_with fail
        go_roundw
        case rel => exact ⟨q + 1, by omega, by go_num, HN.out, HB.out⟩
        case measure => simp [intOf]; omega
    · have hqn : q = n := by omega
      subst hqn
      have HR : Hid (optI (firstN (fun j => (anth l j).name) q s) = -1) := by unfold Hid; rw [HF.out]; rfl
      go_wp2_with fail
      go_ret
      exact ⟨kret_int HR.out.symm, HB.out⟩
end Go.Proofs.YtmchanddfodhaaaDoor
