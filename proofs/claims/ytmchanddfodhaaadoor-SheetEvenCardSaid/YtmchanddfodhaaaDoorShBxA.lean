/-
  Promise U3: lines that came in; the walks of readable and checkBox; what a box is, as a list of bytes.
-/
import Derived.Test.YtmchanddfodhaaaDoorShShw
import Derived.Test.YtmchanddfodhaaaDoorShPrn
import Derived.Test.YtmchanddfodhaaaDoorRShelf
import Derived.Shelf.GgClosure.Gives
namespace Go.Proofs.YtmchanddfodhaaaDoor
open Go.RowKit Go.Shelf Mny

def snt (l : List ByteArray) (j : Nat) : ByteArray := l.getD j nilT
/-- A slice of texts that came in. -/
def CameT (w : World) (a : Option Addr) (l : List ByteArray) : Prop := l.length = 0 ∨ ∃ b off, a = some ⟨b, off, none⟩ ∧ b < w.heap.size ∧ ∀ j, j < l.length → w.cell? ⟨b, off + j, none⟩ = some (.string (snt l j))
theorem CameT.below {w w' : World} {a : Option Addr} {l : List ByteArray} (h : CameT w a l) (hb : Below w.heap.size w w') : CameT w' a l := by
  rcases h with h | ⟨b, off, rfl, h1, h2⟩
  · exact .inl h
  · exact .inr ⟨b, off, rfl, Nat.lt_of_lt_of_le h1 hb.size, fun j hj => (hb.cell (p := ⟨b, off + j, none⟩) h1).trans (h2 j hj)⟩
theorem CameT.open {w : World} {a : Option Addr} {l : List ByteArray} (h : CameT w a l) {n : Nat} (hn : l.length = n) (h0 : 0 < n) : ∃ b off, a = some ⟨b, off, none⟩ ∧ ∀ w', Below w.heap.size w w' → ∀ k, k < n → w'.cell? ⟨b, off + k, none⟩ = some (.string (snt l k)) := by
  rcases h with h | ⟨b, off, rfl, h1, h2⟩
  · omega
  · exact ⟨b, off, rfl, fun w' hb k hk => (hb.cell (p := ⟨b, off + k, none⟩) h1).trans (h2 k (by omega))⟩
def TextsFit (l : List ByteArray) : Prop := ∀ j, j < l.length → (snt l j).size ≤ maxLen
set_option maxRecDepth 100000 in
theorem openTx {H : Type} {enc : TypeId × Value → H} {W : World} {fuel : Nat} {v : Value} {x : DataW H × List MemPlace}
    (h : DataW.trod enc Tryd.prog W 0 (fun _ => true) true fuel 35 [v] = some x) :
    ∃ (a : Option Addr) (len cap : Nat) (l : List ByteArray), v = .slice a len cap ∧ CameT W a l ∧ TextsFit l ∧ l.length = len ∧ len ≤ maxLen := by
  rcases Deep.open_slice Tryd.underlying35 h with ⟨hcs, _⟩ | ⟨a', len, cap, m, n, D, Pl, hcs, hb, hl, hm, hmm, _, hx⟩
  · simp at hcs
    exact ⟨none, 0, 0, [], hcs, .inl rfl, fun j hj => by simp at hj, rfl, Nat.zero_le _⟩
  simp at hcs
  subst hcs
  have hmc : m = cap := by rw [hmm]; simp
  subst hmc
  have each : ∀ i, i < m → ∃ r : ByteArray, W.cell? (a'.add i) = some (.string r) ∧ r.size ≤ maxLen := by
    intro i hi
    obtain ⟨cs', h1, h2⟩ := hx i hi
    rw [ocells_str] at h1
    obtain ⟨_, hlen, hcell⟩ := World.cells?_some h1
    match cs', hlen with
    | [v0], _ =>
      obtain ⟨s0, q0, _, hs⟩ := DataW.trod_string Tryd.underlying9 h2
      simp at q0
      subst q0
      have e0 := hcell 0 (by omega)
      rw [Deep.add_add] at e0
      exact ⟨s0, by simpa using e0, hs⟩
  haveI : Inhabited ByteArray := ⟨⟨#[]⟩⟩
  obtain ⟨q, hq⟩ := Deep.choose_lt each
  have hnth : ∀ j, j < len → snt ((List.range len).map q) j = q j := by
    intro j hj
    simp [snt, List.getD_eq_getElem?_getD, hj]
  refine ⟨some a', len, m, (List.range len).map q, rfl, ?_, ?_, by simp, by omega⟩
  · by_cases h0 : len = 0
    · exact .inl (by simp [h0])
    · obtain ⟨b, off, spot⟩ := a'
      have hc := (hq 0 (by omega)).1
      have hspot : spot = none := by simpa [Addr.add] using World.cell?_spot hc
      subst hspot
      refine .inr ⟨b, off, rfl, oblt_of_cell hc, fun j hj => ?_⟩
      have hj' : j < len := by simpa using hj
      obtain ⟨h1, _⟩ := hq j (by omega)
      simp only [Addr.add_lit] at h1
      rw [hnth j hj']
      exact h1
  · intro j hj
    have hj' : j < len := by simpa using hj
    rw [hnth j hj']
    exact (hq j (by omega)).2
/-- Letters that are asked: the walk of isHidden. -/
theorem hidden_any (r : Nat) (w : World) : Calls Tryd.prog 53 #[.int .i32 (r : Int)] w fun e w' => e = .returned (.bool (hidP r)) ∧ w' = w := by
  by_cases h1 : (r : Int) < 32
  · have HE : Hid (hidP r = true) := decide_eq_true (.inl h1)
    go_enter Tryd.func53, Tryd.ntmps53
    go_wp2_with fail
    go_ret
    exact ⟨kret_bool (by rw [HE.out]), rfl⟩
  · by_cases h2 : (r : Int) = 127
    · have HE : Hid (hidP r = true) := decide_eq_true (.inr h2)
      have h3 : ((r : Int) == 127) = true := by rw [h2]; rfl
      go_enter Tryd.func53, Tryd.ntmps53
      go_wp2_with fail
      go_ret
      exact ⟨kret_bool (by rw [HE.out]), rfl⟩
    · have HE : Hid (hidP r = false) := decide_eq_false (by omega)
      have h3 : ((r : Int) == 127) = false := by rw [beq_eq_false_iff_ne]; exact h2
      go_enter Tryd.func53, Tryd.ntmps53
      go_wp2_with fail
      go_ret
      exact ⟨kret_bool (by rw [HE.out]), rfl⟩
theorem hidden_at (w : World) : PredAt Tryd.prog 53 #[] encR hidP w := fun W x _ => by
  unfold FnGives
  refine (hidden_any x W).mono ?_
  rintro e w' ⟨rfl, rfl⟩
  exact ⟨rfl, 0, rfl⟩
theorem hidden_enters : ∀ args w, (callFunc 53 args).run Tryd.prog w = .ok (.enter 53 args) w := enters_of Tryd.func53 (by kernel_rfl) rfl
/-- Is a line too long; has it a byte that it may not have? -/
def longT (s : ByteArray) : Bool := decide (200 < s.size)
def hidT (s : ByteArray) : Bool := hidK s s.size
theorem long_any (s : ByteArray) (w : World) (_ : s.size ≤ maxLen) : Calls Tryd.prog 50 #[.string s] w fun e w' => e = .returned (.bool (longT s)) ∧ Below w.heap.size w w' := by
  have HE : Hid (longT s = decide ((200 : Int) < (s.size : Int))) := by unfold Hid longT; rw [Bool.eq_iff_iff, decide_eq_true_iff, decide_eq_true_iff]; omega
  go_enter Tryd.func50, Tryd.ntmps50
  go_wp2_with fail
  go_ret
  exact ⟨kret_bool HE.out.symm, Below.refl _ _⟩
theorem hid_any (s : ByteArray) (w : World) (_ : s.size ≤ maxLen) : Calls Tryd.prog 51 #[.string s] w fun e w' => e = .returned (.bool (hidT s)) ∧ Below w.heap.size w w' := by
  have HC := Lib.hid (sh_strings_ContainsFunc 53 #[] hidden_enters hidP s w (hidden_at w))
  rw [idx_hidK] at HC
  have HE : Hid (hidT s = hidK s s.size) := rfl
  rw [← HE.out] at HC
  generalize hidT s = hb at *
  go_enter Tryd.func51, Tryd.ntmps51
  go_wp2_with fail
  refine HC.out.mono ?_
  rintro e w1 ⟨rfl, hb1⟩
  have HB := Lib.hid hb1
  clear hb1
  go_wp2_with fail
  go_ret
  exact ⟨rfl, HB.out⟩
/-- Is there one among the first k? -/
def anyT (P : ByteArray → Bool) (l : List ByteArray) : Nat → Bool
  | 0 => false
  | k + 1 => anyT P l k || P (snt l k)
theorem anyT_no {P : ByteArray → Bool} {l : List ByteArray} : ∀ {k : Nat}, (∀ j, j < k → P (snt l j) = false) → anyT P l k = false
  | 0, _ => rfl
  | k + 1, h => by rw [anyT, anyT_no fun j hj => h j (by omega), h k (by omega)]; rfl
theorem anyT_yes {P : ByteArray → Bool} {l : List ByteArray} : ∀ {n k : Nat}, k < n → P (snt l k) = true → anyT P l n = true
  | 0, k, h, _ => by omega
  | n + 1, k, h, hp => by
    rw [anyT]
    by_cases e : k = n
    · subst e; rw [hp, Bool.or_true]
    · rw [anyT_yes (n := n) (k := k) (by omega) hp, Bool.true_or]
theorem anyT_false {P : ByteArray → Bool} {l : List ByteArray} {n : Nat} (h : anyT P l n = false) : ∀ j, j < n → P (snt l j) = false := fun j hj => by
  cases e : P (snt l j)
  · rfl
  · rw [anyT_yes hj e] at h; cases h
set_option maxRecDepth 100000 in
set_option maxHeartbeats 1000000 in
theorem indexLong (a : Option Addr) (n cap : Nat) (l : List ByteArray) (w : World) (hc : CameT w a l) (hf : TextsFit l) (hn : l.length = n) (hm : n ≤ maxLen) :
    Calls Tryd.prog 75 #[.slice a n cap, .func (.func 50) #[] #[]] w fun e w' => ∃ i : Int, e = .returned (.int .i64 i) ∧ -1 ≤ i ∧ (0 ≤ i ↔ anyT longT l n = true) ∧ Below w.heap.size w w' := by
  have hm' : n ≤ 9223372036854775807 := by unfold maxLen at hm; omega
  have HO := Lib.hid (fun h0 => hc.open hn h0)
  have HF : Hid (∀ j, j < n → (snt l j).size ≤ maxLen) := fun j hj => hf j (by omega)
  clear hm hc hf hn
  go_enter Tryd.func75, Tryd.ntmps75
  go_wp2_with fail
  go_loopw [8] (fun i wr => ∃ k : Nat, k ≤ n ∧ i = .int .i64 k ∧ (∀ j, j < k → longT (snt l j) = false) ∧ Below w.heap.size w wr) (fun i _ => n - (intOf i).toNat)
  case atStart => exact ⟨0, Nat.zero_le _, rfl, fun j hj => by omega, Below.refl _ _⟩
  case round =>
    obtain ⟨k, hk, rfl, hall, hb⟩ := hrel
    have HA := Lib.hid hall
    have HB := Lib.hid hb
    clear hall hb
    by_cases hlt : k < n
    · have hlt' : (k : Int) < (n : Int) := by omega
      obtain ⟨b, off, rfl, hcell⟩ := HO.out (by omega)
      have x0 := hcell wr HB.out k hlt
      have HFK := Lib.hid (HF.out k hlt)
      clear hcell
      cases hr : longT (snt l k)
      · have HNX : Hid (∀ j, j < k + 1 → longT (snt l j) = false) := fun j hj => by
          by_cases e : j = k
          · subst e; exact hr
          · exact HA.out j (by omega)
        go_wp2_with fail
        refine (long_any _ _ HFK.out).mono ?_
        rintro e w1 ⟨rfl, hb1⟩
        have HB1 := Lib.hid (HB.out.trans (hb1.mono HB.out.size))
        rw [hr]
        clear hb1 x0
        go_wp2_with fail
        go_roundw
        case rel => exact ⟨k + 1, by omega, by go_num, HNX.out, HB1.out⟩
        case measure => simp [intOf]; omega
      · have HY := Lib.hid (anyT_yes (P := longT) hlt hr)
        go_wp2_with fail
        refine (long_any _ _ HFK.out).mono ?_
        rintro e w1 ⟨rfl, hb1⟩
        have HB1 := Lib.hid (HB.out.trans (hb1.mono HB.out.size))
        rw [hr]
        clear hb1 x0
        go_wp2_with fail
        go_ret
        exact ⟨k, rfl, by omega, ⟨fun _ => HY.out, fun _ => by omega⟩, HB1.out⟩
    · obtain rfl : n = k := by omega
      have HN := Lib.hid (anyT_no HA.out)
      go_wp2_with fail
      go_ret
      exact ⟨-1, rfl, by omega, ⟨fun h => by omega, fun h => by rw [HN.out] at h; cases h⟩, HB.out⟩
set_option maxHeartbeats 1000000 in
theorem containsLong (a : Option Addr) (n cap : Nat) (l : List ByteArray) (w : World) (hc : CameT w a l) (hf : TextsFit l) (hn : l.length = n) (hm : n ≤ maxLen) :
    Calls Tryd.prog 49 #[.slice a n cap, .func (.func 50) #[] #[]] w fun e w' => e = .returned (.bool (anyT longT l n)) ∧ Below w.heap.size w w' := by
  have HI := Lib.hid (indexLong a n cap l w hc hf hn hm)
  clear hc hm hf hn
  go_enter Tryd.func49, Tryd.ntmps49
  go_wp2_with fail
  refine HI.out.mono ?_
  rintro e w1 ⟨i, rfl, hi, hall, hb⟩
  have HB := Lib.hid hb
  have HR : Hid (decide (0 ≤ i) = anyT longT l n) := by
    unfold Hid
    rw [Bool.eq_iff_iff, decide_eq_true_iff]
    exact hall
  clear hb hall
  go_wp2_with fail
  go_ret
  exact ⟨kret_bool HR.out, HB.out⟩
set_option maxRecDepth 100000 in
set_option maxHeartbeats 1000000 in
theorem indexHid (a : Option Addr) (n cap : Nat) (l : List ByteArray) (w : World) (hc : CameT w a l) (hf : TextsFit l) (hn : l.length = n) (hm : n ≤ maxLen) :
    Calls Tryd.prog 75 #[.slice a n cap, .func (.func 51) #[] #[]] w fun e w' => ∃ i : Int, e = .returned (.int .i64 i) ∧ -1 ≤ i ∧ (0 ≤ i ↔ anyT hidT l n = true) ∧ Below w.heap.size w w' := by
  have hm' : n ≤ 9223372036854775807 := by unfold maxLen at hm; omega
  have HO := Lib.hid (fun h0 => hc.open hn h0)
  have HF : Hid (∀ j, j < n → (snt l j).size ≤ maxLen) := fun j hj => hf j (by omega)
  clear hm hc hf hn
  go_enter Tryd.func75, Tryd.ntmps75
  go_wp2_with fail
  go_loopw [8] (fun i wr => ∃ k : Nat, k ≤ n ∧ i = .int .i64 k ∧ (∀ j, j < k → hidT (snt l j) = false) ∧ Below w.heap.size w wr) (fun i _ => n - (intOf i).toNat)
  case atStart => exact ⟨0, Nat.zero_le _, rfl, fun j hj => by omega, Below.refl _ _⟩
  case round =>
    obtain ⟨k, hk, rfl, hall, hb⟩ := hrel
    have HA := Lib.hid hall
    have HB := Lib.hid hb
    clear hall hb
    by_cases hlt : k < n
    · have hlt' : (k : Int) < (n : Int) := by omega
      obtain ⟨b, off, rfl, hcell⟩ := HO.out (by omega)
      have x0 := hcell wr HB.out k hlt
      have HFK := Lib.hid (HF.out k hlt)
      clear hcell
      cases hr : hidT (snt l k)
      · have HNX : Hid (∀ j, j < k + 1 → hidT (snt l j) = false) := fun j hj => by
          by_cases e : j = k
          · subst e; exact hr
          · exact HA.out j (by omega)
        go_wp2_with fail
        refine (hid_any _ _ HFK.out).mono ?_
        rintro e w1 ⟨rfl, hb1⟩
        have HB1 := Lib.hid (HB.out.trans (hb1.mono HB.out.size))
        rw [hr]
        clear hb1 x0
        go_wp2_with fail
        go_roundw
        case rel => exact ⟨k + 1, by omega, by go_num, HNX.out, HB1.out⟩
        case measure => simp [intOf]; omega
      · have HY := Lib.hid (anyT_yes (P := hidT) hlt hr)
        go_wp2_with fail
        refine (hid_any _ _ HFK.out).mono ?_
        rintro e w1 ⟨rfl, hb1⟩
        have HB1 := Lib.hid (HB.out.trans (hb1.mono HB.out.size))
        rw [hr]
        clear hb1 x0
        go_wp2_with fail
        go_ret
        exact ⟨k, rfl, by omega, ⟨fun _ => HY.out, fun _ => by omega⟩, HB1.out⟩
    · obtain rfl : n = k := by omega
      have HN := Lib.hid (anyT_no HA.out)
      go_wp2_with fail
      go_ret
      exact ⟨-1, rfl, by omega, ⟨fun h => by omega, fun h => by rw [HN.out] at h; cases h⟩, HB.out⟩
set_option maxHeartbeats 1000000 in
theorem containsHid (a : Option Addr) (n cap : Nat) (l : List ByteArray) (w : World) (hc : CameT w a l) (hf : TextsFit l) (hn : l.length = n) (hm : n ≤ maxLen) :
    Calls Tryd.prog 49 #[.slice a n cap, .func (.func 51) #[] #[]] w fun e w' => e = .returned (.bool (anyT hidT l n)) ∧ Below w.heap.size w w' := by
  have HI := Lib.hid (indexHid a n cap l w hc hf hn hm)
  clear hc hm hf hn
  go_enter Tryd.func49, Tryd.ntmps49
  go_wp2_with fail
  refine HI.out.mono ?_
  rintro e w1 ⟨i, rfl, hi, hall, hb⟩
  have HB := Lib.hid hb
  have HR : Hid (decide (0 ≤ i) = anyT hidT l n) := by
    unfold Hid
    rw [Bool.eq_iff_iff, decide_eq_true_iff]
    exact hall
  clear hb hall
  go_wp2_with fail
  go_ret
  exact ⟨kret_bool HR.out, HB.out⟩
/-- What is wrong with lines. -/
def boxE (l : List ByteArray) (n : Nat) : Int := if 100 < n then 2 else if anyT longT l n = true then 3 else if anyT hidT l n = true then 1 else 0
theorem boxE_zero {l : List ByteArray} {n : Nat} (h : boxE l n = 0) : n ≤ 100 ∧ (∀ j, j < n → (snt l j).size ≤ 200) ∧ anyT hidT l n = false := by
  unfold boxE at h
  split at h
  · omega
  · split at h
    · omega
    · next h2 =>
      split at h
      · omega
      · next h3 =>
        refine ⟨by omega, fun j hj => ?_, by simpa using h3⟩
        have := anyT_false (P := longT) (l := l) (n := n) (by simpa using h2) j hj
        have := of_decide_eq_false this
        omega
set_option maxHeartbeats 1000000 in
theorem checkBox_any (a : Option Addr) (n cap : Nat) (l : List ByteArray) (w : World) (hc : CameT w a l) (hf : TextsFit l) (hn : l.length = n) (hm : n ≤ maxLen) :
    Calls Tryd.prog 28 #[.slice a n cap] w fun e w' => e = .returned (.int .i64 (boxE l n)) ∧ Below w.heap.size w w' := by
  have hm' : n ≤ 9223372036854775807 := by unfold maxLen at hm; omega
  have HC := Lib.hid hc
  have H1 := Lib.hid (fun w hc => containsLong a n cap l w hc hf hn hm)
  have H2 := Lib.hid (fun w hc => containsHid a n cap l w hc hf hn hm)
  clear hc hf hn hm
  by_cases h1 : 100 < n
  · have HE : Hid (boxE l n = 2) := by unfold Hid boxE; rw [if_pos h1]
    have h1' : (100 : Int) < (n : Int) := by omega
    go_enter Tryd.func28, Tryd.ntmps28
    go_wp2_with fail
    go_ret
    exact ⟨kret_int HE.out.symm, Below.refl _ _⟩
  · have h1' : ¬ ((100 : Int) < (n : Int)) := by omega
    cases hl : anyT longT l n
    · cases hh : anyT hidT l n
      · have HE : Hid (boxE l n = 0) := by unfold Hid boxE; rw [if_neg h1, hl, hh]; rfl
        rw [hl] at H1
        rw [hh] at H2
        clear hl hh
        go_enter Tryd.func28, Tryd.ntmps28
        go_wp2_with fail
        refine (H1.out _ HC.out).mono ?_
        rintro e w1 ⟨rfl, hb1⟩
        have HB1 := Lib.hid hb1
        clear hb1
        go_wp2_with fail
        refine (H2.out _ (HC.out.below HB1.out)).mono ?_
        rintro e w2 ⟨rfl, hb2⟩
        have HB2 := Lib.hid (HB1.out.trans (hb2.mono HB1.out.size))
        clear hb2
        go_wp2_with fail
        go_ret
        exact ⟨kret_int HE.out.symm, HB2.out⟩
      · have HE : Hid (boxE l n = 1) := by unfold Hid boxE; rw [if_neg h1, hl, hh]; rfl
        rw [hl] at H1
        rw [hh] at H2
        clear hl hh
        go_enter Tryd.func28, Tryd.ntmps28
        go_wp2_with fail
        refine (H1.out _ HC.out).mono ?_
        rintro e w1 ⟨rfl, hb1⟩
        have HB1 := Lib.hid hb1
        clear hb1
        go_wp2_with fail
        refine (H2.out _ (HC.out.below HB1.out)).mono ?_
        rintro e w2 ⟨rfl, hb2⟩
        have HB2 := Lib.hid (HB1.out.trans (hb2.mono HB1.out.size))
        clear hb2
        go_wp2_with fail
        go_ret
        exact ⟨kret_int HE.out.symm, HB2.out⟩
    · have HE : Hid (boxE l n = 3) := by unfold Hid boxE; rw [if_neg h1, hl]; rfl
      rw [hl] at H1
      clear hl
      go_enter Tryd.func28, Tryd.ntmps28
      go_wp2_with fail
      refine (H1.out _ HC.out).mono ?_
      rintro e w1 ⟨rfl, hb1⟩
      have HB1 := Lib.hid hb1
      clear hb1
      go_wp2_with fail
      go_ret
      exact ⟨kret_int HE.out.symm, HB1.out⟩
/-- The walk of isBroken: it is asked at a place of a line. -/
theorem broken_any (s : ByteArray) (p : Nat) (h : p < s.size) (w : World) :
    Calls Tryd.prog 54 #[.string (s.extract p s.size), .int .i32 ((Utf8.decode s p).1 : Int)] w fun e w' => e = .returned (.bool (decide (letN s p = 0))) ∧ w' = w := by
  have HB := Lib.hid (broken_iff h)
  have HP := Lib.hid (fun w => sh_strings_HasPrefix (s.extract p s.size) ⟨#[239, 191, 189]⟩ w)
  have e0 : (⟨#[239, 191, 189]⟩ : ByteArray).data.toList = [239, 191, 189] := rfl
  rw [e0] at HP
  clear e0 h
  generalize decide (letN s p = 0) = bb at *
  generalize Lib.hasPrefix (s.extract p s.size).data.toList [239, 191, 189] = hp at *
  generalize ((Utf8.decode s p).1 : Int) = r at *
  generalize s.extract p s.size = rest at *
  cases hr : (r == 65533)
  · rw [hr, Bool.false_and] at HB
    go_enter Tryd.func54, Tryd.ntmps54
    go_wp2_with fail
    go_ret
    exact ⟨kret_bool HB.out, rfl⟩
  · rw [hr, Bool.true_and] at HB
    go_enter Tryd.func54, Tryd.ntmps54
    go_wp2_with fail
    refine (HP.out _).mono ?_
    rintro e w1 ⟨rfl, rfl⟩
    go_wp2_with fail
    go_ret
    exact ⟨kret_bool HB.out, rfl⟩
theorem rune_any (B b : Nat) (l : List UInt8) (r : Nat) (hr : (r : Int) ≤ 1114111) (w : World) (h : Bld w B b l) (hl : l.length ≤ 1000000) (hB : B ≤ w.heap.size) :
    Calls Tryd.prog 55 #[.pointer (some ⟨b, 0, none⟩), .int .i32 (r : Int)] w fun e w' => (∃ k, e = .returned (.tuple #[.int .i64 k, .nilIface])) ∧ Bld w' B b (l ++ Lib.encodeRune (r : Int)) ∧ Below B w w' ∧ Lib.OthersKept 5 (some b) w w' := by
  refine (sh_WriteRune_k B b (Lib.byteCells l) (r : Int) (by omega) (by omega) w h (by rw [Lib.byteCells_length]; omega) hB).mono ?_
  rintro e w' ⟨he, h1, h2, h3⟩
  refine ⟨⟨_, he⟩, .inr ?_, h2, h3⟩
  rw [Lib.byteCells_append, Lib.byteCells_encodeRune]
  exact h1
end Go.Proofs.YtmchanddfodhaaaDoor
