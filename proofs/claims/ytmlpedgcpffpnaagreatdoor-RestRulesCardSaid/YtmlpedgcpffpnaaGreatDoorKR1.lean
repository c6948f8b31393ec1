/-
  Promise P2, of rules: how the reference steps through a text, and that it meets the tokens that the program found: no walk.
-/
import Derived.Test.YtmlpedgcpffpnaaGreatDoorKQL
import Derived.Test.YtmlpedgcpffpnaaGreatDoorKZ0
import Derived.Test.YtmlpedgcpffpnaaGreatDoorKQK
import Derived.Test.YtmlpedgcpffpnaaGreatDoorKQ1
import Derived.Deep.QuietTactic
import Derived.BigQuiet
set_option linter.unusedSimpArgs false
set_option maxRecDepth 100000
set_option maxHeartbeats 8000000
namespace Go.Proofs.YtmlpedgcpffpnaaGreatDoor
inductive Rs (s : ByteArray) : Nat × List Tk -> Nat × List Tk -> Prop
 | blank (a : Nat) (L : List Tk) (h : a < s.size) (hb : blkB (bt s a) = true) : Rs s (a, L) (a + 1, L)
 | hash (a m : Nat) (L : List Tk) (h : a < s.size) (hb : bt s a = 35) (hm : SpanAt nlfB s a m) : Rs s (a, L) (a + m, L)
 | tok (a : Nat) (L : List Tk) (k : Int) (n : Nat) (v : Int) (p : Bool) (h : a < s.size) (hb : blkB (bt s a) = false) (hh : bt s a ≠ 35) (hf : firstO (s.extract a s.size) = .tok k n v p) : Rs s (a, L) (a + n, L ++ [⟨k, (s.extract a s.size).extract 0 n, v, p, a⟩])
theorem blk35 : blkB 35 = false := by decide
theorem SpanAt.rone {P : Int -> Bool} {s : ByteArray} {a m m' : Nat} (h : SpanAt P s a m) (h' : SpanAt P s a m') : m = m' := by
 rcases Nat.lt_trichotomy m m' with g | g | g
 ·have := h'.2.1 m g;rw [h.2.2 (by have := h'.1; omega)] at this
  cases this
 ·exact g
 ·have := h.2.1 m' g;rw [h'.2.2 (by have := h.1; omega)] at this
  cases this
theorem Rs.one {s : ByteArray} {x y z : Nat × List Tk} (h : Rs s x y) (h' : Rs s x z) : y = z := by
 cases h with
 | blank a L h hb =>
   cases h' with
   | blank => rfl
   | hash _ m _ _ hb' => rw [hb', blk35] at hb; cases hb
   | tok _ _ k n v p _ hb' => rw [hb] at hb'; cases hb'
 | hash a m L h hb hm =>
   cases h' with
   | blank _ _ _ hb' => rw [hb, blk35] at hb'; cases hb'
   | hash _ m' _ _ _ hm' => rw [hm.rone hm']
   | tok _ _ k n v p _ _ hh => exact absurd hb hh
 | tok a L k n v p h hb hh hf =>
   cases h' with
   | blank _ _ _ hb' => rw [hb] at hb'; cases hb'
   | hash _ m' _ _ hb' => exact absurd hb' hh
   | tok _ _ k' n' v' p' _ _ _ hf' =>
     rw [hf] at hf';injection hf' with e1 e2 e3 e4
     subst e1 e2 e3 e4;rfl
theorem nlf35 : nlfB 35 = true := by decide
theorem Rs.lt {s : ByteArray} {x y : Nat × List Tk} (h : Rs s x y) : x.1 < y.1 /\ y.1 <= s.size := by
 cases h with
 | blank a L h hb => exact ⟨Nat.lt_succ_self _, h⟩
 | hash a m L h hb hm =>
   refine ⟨?_, hm.1⟩
   show a < a + m
   by_cases h0 : m = 0
   ·subst h0;have := hm.2.2 h;rw [Nat.add_zero, hb, nlf35] at this
    cases this
   ·omega
 | tok a L k n v p h hb hh hf =>
   have hz : (s.extract a s.size).size = s.size - a := by rw [ByteArray.size_extract]; omega
   have := first_len (s := s.extract a s.size) (by rw [hz]; omega) hf
   show a < a + n /\ a + n <= s.size
   omega
inductive Rst (s : ByteArray) (x : Nat × List Tk) : Nat × List Tk -> Prop
 | refl : Rst s x x
 | step (y z : Nat × List Tk) (h : Rst s x y) (hs : Rs s y z) : Rst s x z
theorem Rst.le {s : ByteArray} {x y : Nat × List Tk} (h : Rst s x y) : x.1 <= y.1 := by
 induction h with
 | refl => exact Nat.le_refl _
 | step y z _ hs ih => have := hs.lt.1; omega
theorem Rst.cases {s : ByteArray} {x z : Nat × List Tk} (h : Rst s x z) : x = z \/ ∃ y, Rs s x y /\ Rst s y z := by
 induction h with
 | refl => exact .inl rfl
 | step y z _ hs ih =>
   rcases ih with rfl | ⟨u, h1, h2⟩
   ·exact .inr ⟨z, hs, .refl⟩
   ·exact .inr ⟨u, h1, .step _ _ h2 hs⟩
theorem Rst.lin {s : ByteArray} {x y z : Nat × List Tk} (h : Rst s x y) (h' : Rst s x z) : Rst s y z \/ Rst s z y := by
 induction h with
 | refl => exact .inl h'
 | step u v _ hs ih =>
   rcases ih with h1 | h1
   ·rcases h1.cases with rfl | ⟨t, h2, h3⟩
    ·exact .inr (.step _ _ .refl hs)
    ·rw [hs.one h2];exact .inl h3
   ·exact .inr (.step _ _ h1 hs)
def RT (s : ByteArray) (a : Nat) (L : List Tk) : Prop := Rst s (0, []) (a, L)
theorem RT.next {s : ByteArray} {a c : Nat} {L T : List Tk} (h : RT s a L) (h' : RT s c T) (hac : a < c) : ∃ y, Rs s (a, L) y /\ Rst s y (c, T) := by
 rcases Rst.lin h h' with g | g
 ·rcases g.cases with e | g
  ·injection e with e1 e2; omega
  ·exact g
 ·have : c <= a := g.le;omega
theorem RT.same {s : ByteArray} {a : Nat} {L T : List Tk} (h : RT s a L) (h' : RT s a T) : L = T := by
 have key : ∀ {L T : List Tk}, Rst s (a, L) (a, T) -> L = T := fun g => by
  rcases g.cases with e | ⟨y, g1, g2⟩
  ·injection e
  ·have h1 : a < y.1 := g1.lt.1;have h2 : y.1 <= a := g2.le;omega
 rcases Rst.lin h h' with g | g
 ·exact key g
 ·exact (key g).symm
theorem RT.gap {s : ByteArray} {a b : Nat} {L : List Tk} (hg : GapAt s a b) : RT s a L -> RT s b L := by
 have blanks : ∀ (k a : Nat), SpanAt blkB s a k -> RT s a L -> ∀ j, j <= k -> RT s (a + j) L := by
  intro k a h h0 j
  induction j with
  | zero => exact fun _ => h0
  | succ j ih =>
    intro hj;exact .step _ _ (ih (by omega)) (.blank (a + j) L (by have := h.1; omega) (h.2.1 j (by omega)))
 induction hg with
 | stop a k h hn => exact fun h0 => blanks k a h h0 k (Nat.le_refl _)
 | more a k m n h hn hm hr ih =>
   intro h0;have h1 := blanks k a h h0 k (Nat.le_refl _);have hlt : a + k < s.size := by
    by_cases g : a + k < s.size
    ·exact g
    ·rw [bt_out g] at hn; cases hn
   exact ih (.step _ _ h1 (.hash (a + k) m L hlt hn hm))
theorem gap_end {s : ByteArray} {a b : Nat} (h : GapAt s a b) : b < s.size -> blkB (bt s b) = false /\ bt s b ≠ 35 := by
 induction h with
 | stop a k h hn => exact fun hb => ⟨h.2.2 hb, hn⟩
 | more a k m n h hn hm hr ih => exact ih
theorem toks_end {s : ByteArray} {a : Nat} {L : List Tk} (h : Toks s a L) (ha : a < s.size) : blkB (bt s a) = false /\ bt s a ≠ 35 := by
 cases h with
 | start _ h _ => exact gap_end h ha
 | step a L k n v p m h ha' hf hm hms => exact gap_end (hm.from (by omega)) (by omega)
theorem RT.of {s : ByteArray} {a : Nat} {L : List Tk} (h : Toks s a L) : RT s a L := by
 induction h with
 | start a h ha => exact RT.gap h .refl
 | step a L k n v p m h ha hf hm hms ih =>
   have he := toks_end h ha;have h1 : RT s (a + n) (L ++ [⟨k, (s.extract a s.size).extract 0 n, v, p, a⟩]) := .step _ _ ih (.tok a L k n v p ha he.1 he.2 hf);have hg := hm.from (a := a + n) (by omega)
   rw [Nat.add_zero] at hg;exact RT.gap hg h1
open Go.RowKit
def sgnS : ByteArray := ⟨#[61, 59, 43, 45, 42, 47, 40, 41, 44, 60, 37]⟩
theorem sgn_yes {j : Nat} (h : j < 11) : signB (bt sgnS j) = true := by
 have : ∀ j : Fin 11, signB (bt sgnS j.val) = true := by decide
 exact this ⟨j, h⟩
theorem sgn_no {c : Int} (h0 : 0 <= c) (h1 : c < 256) (h : ∀ k, k < 11 -> bt sgnS k ≠ c) : signB c = false := by
 have key : ∀ c : Fin 256, signB (c.val : Int) = true -> ∃ j : Fin 11, bt sgnS j.val = (c.val : Int) := by decide +kernel
 cases hs : signB c with
 | false => rfl
 | true =>
   obtain ⟨n, rfl⟩ : ∃ n : Nat, c = (n : Int) := ⟨c.toNat, by omega⟩;obtain ⟨j, hj⟩ := key ⟨n, by omega⟩ hs;exact absurd hj (h j.val j.isLt)
theorem isSign_ref (c : Int) (w : World) (h0 : 0 <= c) (h1 : c < 256) : Calls Tryz.prog 105 #[.int .u8 c] w fun e w' => ∃ q, e = .returned (.bool (signB c)) /\ w' = w.drewN q := by
 have hlit : (⟨#[61, 59, 43, 45, 42, 47, 40, 41, 44, 60, 37]⟩ : ByteArray) = sgnS := rfl;have HC0 := Hd h0;have HC1 := Hd h1;clear h0 h1
 go_enter Tryz.func105, Tryz.ntmps105
 go_wp2_with fail
 rw [hlit];generalize hS : sgnS = S at *;have HSz : Hid (S.size = 11) := Hd (by rw [<- hS]; rfl);have HSB : Hid (∀ j, bt sgnS j = bt S j) := Hd (fun j => by rw [hS]);clear hlit hS
 go_loopw [4] (fun i wr => ∃ j q : Nat, j <= 11 /\ i = .int .i64 j /\ (∀ k, k < j -> bt S k ≠ c) /\ wr = w.drewN q) (fun i _ => 11 - (intOf i).toNat)
 case atStart => exact ⟨0, 0, Nat.zero_le _, rfl, fun k h => absurd h (Nat.not_lt_zero _), rfl⟩
 case round =>
  obtain ⟨j, q, hj, rfl, hno, rfl⟩ := hrel;have HNO := Hd hno;clear hno
  by_cases hlt : j < 11
  ·have hsz := HSz.out;have hlt' : (j : Int) < (S.size : Int) := by omega
   have hlt2 : j < S.size := by omega
   have hb := bt_in hlt2
   by_cases hc : bt S j = c
   ·have hc' : ((S[j]).toNat : Int) = c := by rw [<- hb]; exact hc
    have HC := Hd hc;clear hb hc;go_wp2_with fail
    go_ret;exact ⟨q, tret_bool (by rw [<- HC.out, <- HSB.out]; exact (sgn_yes hlt).symm), rfl⟩
   ·have hc' : ¬ ((S[j]).toNat : Int) = c := by rw [<- hb]; exact hc
    have hc2 : (((S[j]).toNat : Int) == c) = false := by simpa using hc'
    have HC := Hd hc;clear hb hc;go_wp2_with fail
    go_roundw
    case rel => exact ⟨j + 1, q, by omega, by go_num, fun k hk => by
     by_cases e : k = j
     ·rw [e]; exact HC.out
     ·exact HNO.out k (by omega), rfl⟩
    case measure => simp [intOf]; omega
  ·obtain rfl : j = 11 := by omega
   have hsz := HSz.out;have hlt' : ¬ ((11 : Nat) : Int) < (S.size : Int) := by omega
   go_wp2_with fail
   go_ret;have HR : Hid (Ending.returned (.bool false) = .returned (.bool (signB c))) := Hd (tret_bool (sgn_no HC0.out HC1.out (fun k hk e => HNO.out k hk (by rw [<- HSB.out]; exact e))).symm)
   first
    | exact ⟨q, HR.out, rfl⟩
    | exact ⟨HR.out, q, rfl⟩
end Go.Proofs.YtmlpedgcpffpnaaGreatDoor
namespace Go.Proofs.YtmlpedgcpffpnaaGreatDoor
theorem long_iff (X : ByteArray) : longB X = true ↔ bt X 0 = 60 /\ bt X 1 = 61 := by
 have key : ∀ l : List UInt8, Lib.hasPrefix l [60, 61] = true ↔ ∃ r, l = 60 :: 61 :: r := by
  intro l;unfold Lib.hasPrefix;rw [List.isPrefixOf_iff_prefix]
  constructor
  ·rintro ⟨r, h⟩;exact ⟨r, h.symm⟩
  ·rintro ⟨r, rfl⟩;exact ⟨r, rfl⟩
 have back : ∀ l, X.data.toList = l -> X = ⟨l.toArray⟩ := fun l h => by
  apply ByteArray.ext
  rw [<- Array.toList_inj];exact h
 unfold longB;rw [key]
 constructor
 ·rintro ⟨r, h⟩;rw [back _ h];exact ⟨rfl, rfl⟩
 ·rintro ⟨h0, h1⟩;have g1 : 1 < X.size := by
   by_cases g : 1 < X.size
   ·exact g
   ·rw [bt_out g] at h1; omega
  obtain ⟨a, b, r, hl⟩ : ∃ a b r, X.data.toList = a :: b :: r := by
   rw [size_toL] at g1
   match X.data.toList, g1 with
   | a :: b :: r, _ => exact ⟨a, b, r, rfl⟩
  rw [back _ hl] at h0 h1;have e0 : ((a.toNat : Nat) : Int) = 60 := h0;have e1 : ((b.toNat : Nat) : Int) = 61 := h1;refine ⟨r, ?_⟩;rw [hl, show a = 60 from UInt8.toNat_inj.1 (by show a.toNat = 60; omega), show b = 61 from UInt8.toNat_inj.1 (by show b.toNat = 61; omega)]
theorem span_none {P : Int -> Bool} {X : ByteArray} (h : P (bt X 0) = false) : ¬ 0 < spanN P X := fun g => by
 have := (spanN_is P X).2.1 0 g;rw [h] at this
 cases this
theorem first_sign {X : ByteArray} {k : Int} {n : Nat} {v : Int} {p : Bool} (hl : letB (bt X 0) = false) (hd : digB (bt X 0) = false) (h : firstO X = .tok k n v p) : k = 3 /\ v = 0 /\ p = false /\ ((longB X = true /\ n = 2) \/ (longB X = false /\ signB (bt X 0) = true /\ n = 1)) := by
 unfold firstO at h;rw [if_neg (span_none hl), if_neg (span_none hd)] at h;unfold signO at h
 split at h
 ·injection h with e1 e2 e3 e4
  subst e1 e2 e3 e4
  rename_i h1
  exact ⟨rfl, rfl, rfl, .inl ⟨h1, rfl⟩⟩
 ·split at h
  ·injection h with e1 e2 e3 e4
   subst e1 e2 e3 e4
   rename_i h1 h2
   exact ⟨rfl, rfl, rfl, .inr ⟨by simpa using h1, h2, rfl⟩⟩
  ·cases h
def dvN (X : ByteArray) : Nat -> Int
 | 0 => 0
 | j + 1 => 10 * dvN X j + (bt X j - 48)
def dstep (a : Int) (c : UInt8) : Int := 10 * a + ((c.toNat : Int) - 48)
theorem parse_fold : ∀ (l : List UInt8) (acc u : Nat), Lib.parseUint10 acc l = .ok u -> (u : Int) = l.foldl dstep acc
 | [], acc, u, h => by
   simp only [Lib.parseUint10] at h;injection h with h
   simp [h]
 | c :: r, acc, u, h => by
   simp only [Lib.parseUint10] at h
   split at h
   ·rename_i hc
    split at h
    ·cases h
    ·split at h
     ·cases h
     ·have e : ((acc * 10 + (c.toNat - 48) : Nat) : Int) = dstep acc c := by unfold dstep; omega
      rw [parse_fold r _ u h, List.foldl_cons, e]
   ·cases h
theorem atoi_fold {l : List UInt8} {u : Int} (h : ∀ c ∈ l, 48 <= c.toNat /\ c.toNat <= 57) (hu : Lib.atoiAll l = .ok u) : u = l.foldl dstep 0 := by
 cases l with
 | nil => cases hu
 | cons c r =>
   have hc := h c (List.mem_cons_self ..);have n1 : ¬ (c.toNat = 43) := by omega
   have n2 : ¬ (c.toNat = 45) := by omega
   unfold Lib.atoiAll at hu;simp only [n1, n2, or_self, if_false, not_false_eq_true, true_and, false_and] at hu;unfold Lib.parseMag at hu;rw [if_neg (by simp)] at hu
   cases hq : Lib.parseUint10 0 (c :: r) with
   | ok v =>
     rw [hq] at hu
     dsimp only at hu
     split at hu
     ·cases hu
     ·injection hu with hu
      rw [<- hu];exact parse_fold _ 0 v hq
   | _ => rw [hq] at hu; cases hu
theorem dv_fold (X : ByteArray) : ∀ m, m <= X.size -> (X.extract 0 m).data.toList.foldl dstep 0 = dvN X m
 | 0, _ => by
   rw [ByteArray.data_extract, Array.toList_extract];rfl
 | m + 1, h => by
   have ih := dv_fold X m (by omega);have hl : m < X.data.toList.length := by rw [<- size_toL]; omega
   have e : (X.extract 0 (m + 1)).data.toList = (X.extract 0 m).data.toList ++ [X.data.toList[m]] := by
    rw [ByteArray.data_extract, Array.toList_extract, ByteArray.data_extract, Array.toList_extract];simp only [List.extract_eq_take_drop, List.drop_zero, Nat.sub_zero];rw [List.take_succ_eq_append_getElem hl]
   rw [e, List.foldl_append, ih, List.foldl_cons, List.foldl_nil]
   show 10 * dvN X m + _ = 10 * dvN X m + (bt X m - 48)
   rw [bt_in (show m < X.size by omega)];rfl
theorem dv_mono {X : ByteArray} {m : Nat} (h : ∀ j, j < m -> digB (bt X j) = true) : ∀ j, j <= m -> 0 <= dvN X j /\ ∀ i, i <= j -> dvN X i <= dvN X j
 | 0, _ => ⟨Int.le_refl _, fun i hi => by rw [Nat.le_zero.1 hi]; exact Int.le_refl _⟩
 | j + 1, hj => by
   obtain ⟨h0, h1⟩ := dv_mono h j (by omega);have hd : 48 <= bt X j /\ bt X j <= 57 := of_decide_eq_true (h j (by omega));have e : dvN X (j + 1) = 10 * dvN X j + (bt X j - 48) := rfl;refine ⟨by omega, fun i hi => ?_⟩
   by_cases q : i = j + 1
   ·rw [q]; exact Int.le_refl _
   ·have := h1 i (by omega);omega
structure NumAt (X : ByteArray) (k : Int) (n : Nat) (v : Int) (p : Bool) (m : Nat) : Prop where
 sp : SpanIs digB X m
 pos : 0 < m
 kd : k = 2
 top : dvN X m <= 10000000000
 zero : bt X 0 = 48 -> m = 1
 rest : (bt X m ≠ 46 /\ n = m /\ v = 100 * dvN X m /\ p = false) \/ (bt X m = 46 /\ digB (bt X (m + 1)) = true /\ digB (bt X (m + 2)) = true /\ n = m + 3 /\ v = 100 * dvN X m + (10 * (bt X (m + 1) - 48) + (bt X (m + 2) - 48)) /\ p = true /\ v <= 1000000000000)
theorem first_num {X : ByteArray} {k : Int} {n : Nat} {v : Int} {p : Bool} (h0 : 0 < X.size) (hl : letB (bt X 0) = false) (hd : digB (bt X 0) = true) (h : firstO X = .tok k n v p) : ∃ m, NumAt X k n v p m := by
 have hs := spanN_is digB X;have hn : 0 < spanN digB X := by
  by_cases e : 0 < spanN digB X
  ·exact e
  ·have e0 : spanN digB X = 0 := by omega
   rw [e0] at hs;rw [hs.2.2 h0] at hd
   cases hd
 unfold firstO at h;rw [if_neg (span_none hl), if_pos hn] at h;generalize spanN digB X = m at *;unfold numO at h
 split at h
 ·rename_i u hu
  have hU : u = dvN X m := by
   rw [<- dv_fold X m hs.1];refine atoi_fold (fun c hc => ?_) hu;obtain ⟨j, hj, hb⟩ := mem_bt hc;rw [ByteArray.size_extract] at hj;have := hs.1;rw [bt_extract X 0 m j hs.1 (by omega)] at hb;have hd := hs.2.1 (0 + j) (by omega);rw [hb] at hd;have := of_decide_eq_true hd;omega
  subst hU
  split at h
  ·cases h
  ·split at h
   ·cases h
   ·rename_i c1 c2
    have hz : bt X 0 = 48 -> m = 1 := fun e => by
     have : ¬ 1 < m := fun g => c2 ⟨e, g⟩
     omega
    split at h
    ·rename_i c3
     injection h with e1 e2 e3 e4
     subst e1 e2 e3 e4;exact ⟨m, hs, hn, rfl, by omega, hz, .inl ⟨c3, rfl, rfl, rfl⟩⟩
    ·split at h
     ·cases h
     ·rename_i c3 c4
      split at h
      ·rename_i c5
       injection h with e1 e2 e3 e4
       subst e1 e2 e3 e4;have hsd := spanN_is digB (X.extract (m + 1) X.size);have d0 := hsd.2.1 0 (by omega);have d1 := hsd.2.1 1 (by omega);rw [bt_suffix] at d0 d1;exact ⟨m, hs, hn, rfl, by omega, hz, .inr ⟨by simpa using c3, d0, d1, rfl, rfl, rfl, c5⟩⟩
      ·cases h
 ·cases h
open Go.RowKit
theorem rkbelow_box (w : World) (o : Obj) : Below w.heap.size w (w.alloc o) := (Below.refl w.heap.size w).alloc (Nat.le_refl _) o
theorem rkbelow_dN {B : Nat} {a w : World} (h : Below B a w) (k : Nat) : Below B a (w.drewN k) := ⟨h.os, h.tape, h.output, h.size, h.block⟩
def FB (w : World) (g : Nat) : Prop := (w.cell? ⟨g, 0, none⟩ = some (.int .i64 0) /\ w.cell? ⟨g, 1, none⟩ = some (.int .i64 0)) /\ w.frozen? ⟨g, 0, none⟩ = false /\ w.frozen? ⟨g, 1, none⟩ = false
theorem FB.below {w w' : World} {g B : Nat} (h : FB w g) (hb : Below B w w') (hg : g < B) : FB w' g :=
 ⟨⟨(hb.cell (p := ⟨g, 0, none⟩) hg).trans h.1.1, (hb.cell (p := ⟨g, 1, none⟩) hg).trans h.1.2⟩, (hb.frozen (p := ⟨g, 0, none⟩) hg).trans h.2.1, (hb.frozen (p := ⟨g, 1, none⟩) hg).trans h.2.2⟩
theorem FB.lt {w : World} {g : Nat} (h : FB w g) : g < w.heap.size := by
 by_cases hb : g < w.heap.size
 ·exact hb
 ·have : w.heap[g]? = none := Array.getElem?_eq_none (by omega);have h0 := h.1.1;simp [World.cell?, this] at h0
theorem FB.made (w : World) (T : TypeId) : FB (w.alloc (.cells #[.int .i64 0, .int .i64 0] T)) w.heap.size := by
 refine ⟨⟨?_, ?_⟩, ?_, ?_⟩ <;> simp
theorem rk_put2 {w : World} {b : Nat} {u v : Value} (x y : Value) (h0 : w.cell? ⟨b, 0, none⟩ = some u) (h1 : w.cell? ⟨b, 1, none⟩ = some v) : (w.setCell ⟨b, 0, none⟩ x).cell? ⟨b, 0, none⟩ = some x /\ ((w.setCell ⟨b, 0, none⟩ x).setCell ⟨b, 1, none⟩ y).cell? ⟨b, 1, none⟩ = some y := by
 refine ⟨World.cell?_setCell_same _ _ _ h0, World.cell?_setCell_same _ _ _ (?_ : _ = some v)⟩;rw [World.cell?_setCell_other (h := fun e => by injection e with _ e _; cases e)];exact h1
theorem blk_cases {c : Int} (h : blkB c = true) : c = 32 \/ c = 9 \/ c = 10 := of_decide_eq_true h
theorem blk_none {c : Int} (h : blkB c = false) : ¬ c = 32 /\ ¬ c = 9 /\ ¬ c = 10 := by
 have := of_decide_eq_false h;omega
theorem first_word {X : ByteArray} {k : Int} {n : Nat} {v : Int} {p : Bool} (h0 : 0 < X.size) (hl : letB (bt X 0) = true) (h : firstO X = .tok k n v p) : SpanIs letB X n /\ n <= 8 /\ 0 < n /\ v = 0 /\ p = false /\ ((k = 4 /\ wordB (X.extract 0 n) = true) \/ (k = 1 /\ wordB (X.extract 0 n) = false)) := by
 have hs := spanN_is letB X;have hn : 0 < spanN letB X := by
  by_cases e : 0 < spanN letB X
  ·exact e
  ·have e0 : spanN letB X = 0 := by omega
   rw [e0] at hs;rw [hs.2.2 h0] at hl
   cases hl
 unfold firstO at h;rw [if_pos hn] at h;unfold wordO at h
 split at h
 ·cases h
 ·split at h
  ·injection h with e1 e2 e3 e4
   subst e1 e2 e3 e4
   rename_i h1 h2
   exact ⟨hs, by omega, hn, rfl, rfl, .inl ⟨rfl, h2⟩⟩
  ·injection h with e1 e2 e3 e4
   subst e1 e2 e3 e4
   rename_i h1 h2
   exact ⟨hs, by omega, hn, rfl, rfl, .inr ⟨rfl, by simpa using h2⟩⟩
theorem RT.len {s : ByteArray} {a : Nat} {L : List Tk} (h : RT s a L) : L.length <= a := by
 have key : ∀ y, Rst s (0, []) y -> y.2.length <= y.1 := fun y h => by
  induction h with
  | refl => exact Nat.le_refl _
  | step y z _ hs ih =>
    have := hs.lt.1
    cases hs with
    | blank => exact Nat.le_succ_of_le ih
    | hash a m => exact Nat.le_trans ih (Nat.le_add_right _ _)
    | tok a L k n =>
      rw [List.length_append];have h1 : L.length <= a := ih;have h2 : a < a + n := this
      show L.length + 1 <= a + n
      omega
 exact key _ h
theorem span_end {P : Int -> Bool} {s : ByteArray} {a n : Nat} (h : SpanAt P s a n) (h0 : P (-1) = false) : P (bt s (a + n)) = false := by
 by_cases g : a + n < s.size
 ·exact h.2.2 g
 ·rw [bt_out g]; exact h0
theorem ext_ext {s : ByteArray} {a n : Nat} (h : a + n <= s.size) : (s.extract a s.size).extract 0 n = s.extract a (a + n) := by
 apply ByteArray.ext
 rw [ByteArray.data_extract, ByteArray.data_extract, ByteArray.data_extract, Array.extract_extract]
 congr 1
 have : s.data.size = s.size := rfl;omega
theorem TBox.kind {w : World} {g : Nat} {k : Int} {s : ByteArray} {n : Int} {p : Bool} {a : Int} (h : TBox w g k s n p a) (k' : Int) : TBox (w.setCell ⟨g, 0, none⟩ (.int .i64 k')) g k' s n p a := by
 obtain ⟨⟨a0, a1, a2, a3, a4⟩, b0, b1, b2, b3, b4⟩ := h;have ne : ∀ i : Nat, 0 ≠ i -> (⟨g, 0, none⟩ : Addr) ≠ ⟨g, i, none⟩ := fun i h e => h (by injection e)
 refine ⟨⟨World.cell?_setCell_same _ _ _ a0, ?_, ?_, ?_, ?_⟩, ?_, ?_, ?_, ?_, ?_⟩
 ·rw [World.cell?_setCell_other (h := ne 1 (by decide))]; exact a1
 ·rw [World.cell?_setCell_other (h := ne 2 (by decide))]; exact a2
 ·rw [World.cell?_setCell_other (h := ne 3 (by decide))]; exact a3
 ·rw [World.cell?_setCell_other (h := ne 4 (by decide))]; exact a4
 all_goals (simp only [World.frozen?_setCell]; assumption)
theorem GrowT.away {w : World} {B : Nat} {v : Value} {l : List Tk} {p : Addr} (h : GrowT w B v l) (hp : ∀ k, v.ownBlock = some k -> k ≠ p.block) (u : Value) : GrowT (w.setCell p u) B v l := by
 refine World.ownsRow.kept (row := some p.block) h ⟨rfl, rfl, rfl, by simp, fun k _ hk => Below.heap_setCell w p u k (fun e => hk (by rw [e]))⟩ ?_
 cases hv : v.ownBlock with
 | none => exact .inl rfl
 | some k =>
   refine .inr fun e => ?_
   injection e with e
   exact hp k hv e
theorem TBox.txt {w : World} {g : Nat} {k : Int} {s : ByteArray} {n : Int} {p : Bool} {a : Int} (h : TBox w g k s n p a) (s' : ByteArray) : TBox (w.setCell ⟨g, 1, none⟩ (.string s')) g k s' n p a := by
 obtain ⟨⟨a0, a1, a2, a3, a4⟩, b0, b1, b2, b3, b4⟩ := h;have ne : ∀ i : Nat, 1 ≠ i -> (⟨g, 1, none⟩ : Addr) ≠ ⟨g, i, none⟩ := fun i h e => h (by injection e)
 refine ⟨⟨?_, World.cell?_setCell_same _ _ _ a1, ?_, ?_, ?_⟩, ?_, ?_, ?_, ?_, ?_⟩
 ·rw [World.cell?_setCell_other (h := ne 0 (by decide))]; exact a0
 ·rw [World.cell?_setCell_other (h := ne 2 (by decide))]; exact a2
 ·rw [World.cell?_setCell_other (h := ne 3 (by decide))]; exact a3
 ·rw [World.cell?_setCell_other (h := ne 4 (by decide))]; exact a4
 all_goals (simp only [World.frozen?_setCell]; assumption)
theorem TBox.pnt {w : World} {g : Nat} {k : Int} {s : ByteArray} {n : Int} {p : Bool} {a : Int} (h : TBox w g k s n p a) (p' : Bool) : TBox (w.setCell ⟨g, 3, none⟩ (.bool p')) g k s n p' a := by
 obtain ⟨⟨a0, a1, a2, a3, a4⟩, b0, b1, b2, b3, b4⟩ := h;have ne : ∀ i : Nat, 3 ≠ i -> (⟨g, 3, none⟩ : Addr) ≠ ⟨g, i, none⟩ := fun i h e => h (by injection e)
 refine ⟨⟨?_, ?_, ?_, World.cell?_setCell_same _ _ _ a3, ?_⟩, ?_, ?_, ?_, ?_, ?_⟩
 ·rw [World.cell?_setCell_other (h := ne 0 (by decide))]; exact a0
 ·rw [World.cell?_setCell_other (h := ne 1 (by decide))]; exact a1
 ·rw [World.cell?_setCell_other (h := ne 2 (by decide))]; exact a2
 ·rw [World.cell?_setCell_other (h := ne 4 (by decide))]; exact a4
 all_goals (simp only [World.frozen?_setCell]; assumption)
theorem TBox.nmb {w : World} {g : Nat} {k : Int} {s : ByteArray} {n : Int} {p : Bool} {a : Int} (h : TBox w g k s n p a) (n' : Int) : TBox (w.setCell ⟨g, 2, none⟩ (.int .i64 n')) g k s n' p a := by
 obtain ⟨⟨a0, a1, a2, a3, a4⟩, b0, b1, b2, b3, b4⟩ := h;have ne : ∀ i : Nat, 2 ≠ i -> (⟨g, 2, none⟩ : Addr) ≠ ⟨g, i, none⟩ := fun i h e => h (by injection e)
 refine ⟨⟨?_, ?_, World.cell?_setCell_same _ _ _ a2, ?_, ?_⟩, ?_, ?_, ?_, ?_, ?_⟩
 ·rw [World.cell?_setCell_other (h := ne 0 (by decide))]; exact a0
 ·rw [World.cell?_setCell_other (h := ne 1 (by decide))]; exact a1
 ·rw [World.cell?_setCell_other (h := ne 3 (by decide))]; exact a3
 ·rw [World.cell?_setCell_other (h := ne 4 (by decide))]; exact a4
 all_goals (simp only [World.frozen?_setCell]; assumption)
theorem FB.set {w : World} {g b i : Nat} (h : FB w g) (hb : b ≠ g) (v : Value) : FB (w.setCell ⟨b, i, none⟩ v) g := by
 have ne : ∀ j : Nat, (⟨b, i, none⟩ : Addr) ≠ ⟨g, j, none⟩ := fun j e => hb (by injection e)
 refine ⟨⟨?_, ?_⟩, ?_, ?_⟩
 ·rw [World.cell?_setCell_other (h := ne 0)]; exact h.1.1
 ·rw [World.cell?_setCell_other (h := ne 1)]; exact h.1.2
 ·rw [World.frozen?_setCell]; exact h.2.1
 ·rw [World.frozen?_setCell]; exact h.2.2
def SwAt (s : ByteArray) (a : Nat) (L : List Tk) (wr w : World) (u : Value) (E : Nat) (wx : World) : Prop :=
 ∃ (k v : Int) (p : Bool), a < E /\ E <= s.size /\ Rst s (0, []) (E, L ++ [⟨k, s.extract a E, v, p, a⟩]) /\ TBox wx wr.heap.size k (s.extract a E) v p a /\ GrowT wx (w.heap.size + 1) u L /\ FB wx w.heap.size /\ Below w.heap.size w wx /\ wr.heap.size < wx.heap.size
def blkIn (n : Nat) : Code -> Option Code
 | .block k c => if k = n then some (.block k c) else blkIn n c
 | .seq a b => (blkIn n a).or (blkIn n b)
 | .cond _ a b => (blkIn n a).or (blkIn n b)
 | .loop a => blkIn n a
 | _ => none
noncomputable def swC : Code := (Tryz.f53.body.bind (blkIn 4)).getD .skip
theorem num_sums {N c1 c2 : Int} (h0 : 0 <= N) (h1 : N <= 10000000000) (b1 : 48 <= c1 /\ c1 <= 57) (b2 : 48 <= c2 /\ c2 <= 57) : ∃ C1 C2 C3 C4 V : Int,
 100 * N + (10 * (c1 - 48) + (c2 - 48)) = V /\ IntKind.i64.wrap (c1 - 48) = C1 /\ IntKind.i64.wrap (10 * C1) = C2 /\ IntKind.i64.wrap (C2 + c2) = C3 /\ IntKind.i64.wrap (C3 - 48) = C4 /\ IntKind.i64.wrap (100 * N + C4) = V ∧
 wrap64 c1 = c1 /\ wrap64 c2 = c2 /\ wrap64 (c1 - 48) = C1 /\ wrap64 (10 * C1) = C2 /\ wrap64 (C2 + c2) = C3 /\ wrap64 (C3 - 48) = C4 /\ wrap64 (100 * N + C4) = V := by
 refine ⟨c1 - 48, 10 * (c1 - 48), 10 * (c1 - 48) + c2, 10 * (c1 - 48) + c2 - 48, 100 * N + (10 * (c1 - 48) + (c2 - 48)), rfl, IntWalk.i64_in _ (by omega), IntWalk.i64_in _ (by omega), IntWalk.i64_in _ (by omega), IntWalk.i64_in _ (by omega), ?_, IntWalk.wrap64_in _ (by omega), IntWalk.wrap64_in _ (by omega), IntWalk.wrap64_in _ (by omega), IntWalk.wrap64_in _ (by omega), IntWalk.wrap64_in _ (by omega), IntWalk.wrap64_in _ (by omega), ?_⟩
 ·rw [IntWalk.i64_in _ (by omega)]; omega
 ·rw [IntWalk.wrap64_in _ (by omega)]; omega
theorem wrap_at {e f : Nat} (d : Int) (hf : (e : Int) + d = (f : Int)) (he : f <= 10000) : IntKind.i64.wrap ((e : Int) + d) = (f : Int) := by
 rw [IntWalk.i64_in _ (by omega)]; exact hf
set_option linter.unusedVariables false
theorem sw_word {Q : Exit -> Act -> World -> Prop} (s : ByteArray) (a n : Nat) (k v : Int) (p : Bool) (L : List Tk) (w wr : World) (hsz : s.size <= 4000) (hlt : a < s.size) (HR : Hid (RT s a L)) (sl1 sl2 sl3 sl4 sl8 sl9 sl10 sl11 sl12 sl13 sl14 sl15 sl16 sl17 sl18 sl19 sl20 sl21 sl22 sl23 sl24 sl25 sl26 sl27 sl28 sl29 sl30 sl31 sl32 sl33 sl34 sl35 sl36 sl37 sl38 sl39 sl40 sl41 sl42 sl43 sl44 sl45 sl46 sl47 sl48 sl49 sl50 sl51 sl52 sl53 sl54 sl55 sl56 sl57 sl58 sl59 sl60 sl61 sl62 sl63 sl64 sl65 sl66 sl67 sl68 sl69 sl70 sl71 sl72 sl73 sl74 sl75 sl76 sl77 sl78 sl79 sl80 sl81 sl82 sl83 sl84 sl85 sl86 sl87 sl88 sl89 sl90 sl91 sl92 sl93 sl94 sl95 sl96 sl97 sl98 sl99 sl100 sl101 sl102 sl103 sl104 sl105 sl106 sl107 sl108 sl109 sl110 sl111 sl112 sl113 sl114 sl115 sl116 sl117 sl118 sl119 sl120 sl121 sl122 sl123 sl124 sl125 sl126 sl127 sl128 sl129 sl130 sl131 sl132 sl133 sl134 sl135 sl136 sl137 sl138 sl139 sl140 sl141 sl142 sl143 sl144 sl145 sl146 sl147 sl148 sl149 sl150 sl151 sl152 sl153 sl154 sl155 sl156 sl157 sl158 sl159 sl160 sl161 sl162 sl163 sl164 sl165 sl166 sl167 sl168 sl169 sl170 sl171 sl172 sl173 sl174 sl175 sl176 sl177 sl178 sl179 sl180 sl181 sl182 sl183 sl184 sl185 sl186 sl187 sl188 sl189 sl190 sl191 sl192 sl193 sl194 sl195 sl196 sl197 sl198 sl199 sl200 sl201 sl202 sl203 sl204 sl205 sl206 sl207 sl208 : Value) (HG : Hid (GrowT wr (w.heap.size + 1) sl4 L)) (HF : Hid (FB wr w.heap.size)) (HW : Hid (Below w.heap.size w wr))
 (HY2 : Hid (Rst s (0, []) (a + n, L ++ [⟨k, (s.extract a s.size).extract 0 n, v, p, a⟩]))) (HLT : Hid (a < a + n /\ a + n <= s.size)) (hf : firstO (s.extract a s.size) = .tok k n v p)
 (hl : letB (bt s a) = true)
 (hQ : ∀ (E : Nat) (wx : World) (d8 d9 d14 d15 d16 d17 d18 d19 d20 d21 d22 d23 d24 d25 d26 d27 d28 d29 d30 d31 d32 d33 d34 d35 d36 d37 d38 d39 d40 d41 d42 d43 d44 d45 d46 d47 d48 d49 d50 d51 d52 d53 d54 d55 d56 d57 d58 d59 d60 d61 d62 d63 d64 d65 d66 d67 d68 d69 d70 d71 d72 d73 d74 d75 d76 d77 d78 d79 d80 d81 d82 d83 d84 d85 d86 d87 d88 d89 d90 d91 d92 d93 d94 d95 d96 d97 d98 d99 d100 d101 d102 d103 d104 d105 d106 d107 d108 d109 d110 d111 d112 d113 d114 d115 d116 d117 d118 d119 d120 d121 d122 d123 d124 d125 d126 d127 d128 d129 d130 d131 d132 d133 d134 d135 d136 d137 d138 d139 d140 d141 d142 d143 d144 d145 d146 d147 d148 d149 d150 d151 d152 d153 d154 d155 d156 d157 d158 d159 d160 d161 d162 d163 d164 d165 d166 d167 d168 d169 d170 d171 d172 d173 d174 d175 d176 d177 d178 d179 d180 d181 d182 d183 d184 d185 d186 d187 d188 d189 d190 d191 d192 d193 d194 d195 d196 d197 d198 d199 d200 d201 d202 d203 d204 d205 d206 : Value), SwAt s a L wr w sl4 E wx -> Q .normal ⟨#[.string s, sl1, sl2, sl3, sl4, .int .i64 (a : Int), .pointer (some ⟨wr.heap.size, 0, none⟩), .int .i64 (E : Int), d8, d9, sl10, sl11, sl12, sl13, d14, d15, d16, d17, d18, d19, d20, d21, d22, d23, d24, d25, d26, d27, d28, d29, d30, d31, d32, d33, d34, d35, d36, d37, d38, d39, d40, d41, d42, d43, d44, d45, d46, d47, d48, d49, d50, d51, d52, d53, d54, d55, d56, d57, d58, d59, d60, d61, d62, d63, d64, d65, d66, d67, d68, d69, d70, d71, d72, d73, d74, d75, d76, d77, d78, d79, d80, d81, d82, d83, d84, d85, d86, d87, d88, d89, d90, d91, d92, d93, d94, d95, d96, d97, d98, d99, d100, d101, d102, d103, d104, d105, d106, d107, d108, d109, d110, d111, d112, d113, d114, d115, d116, d117, d118, d119, d120, d121, d122, d123, d124, d125, d126, d127, d128, d129, d130, d131, d132, d133, d134, d135, d136, d137, d138, d139, d140, d141, d142, d143, d144, d145, d146, d147, d148, d149, d150, d151, d152, d153, d154, d155, d156, d157, d158, d159, d160, d161, d162, d163, d164, d165, d166, d167, d168, d169, d170, d171, d172, d173, d174, d175, d176, d177, d178, d179, d180, d181, d182, d183, d184, d185, d186, d187, d188, d189, d190, d191, d192, d193, d194, d195, d196, d197, d198, d199, d200, d201, d202, d203, d204, d205, d206, sl207, sl208], []⟩ wx) :
 Code.wp Tryz.prog swC Q ⟨#[.string s, sl1, sl2, sl3, sl4, .int .i64 (a : Int), .pointer (some ⟨wr.heap.size, 0, none⟩), .int .i64 (a : Int), sl8, sl9, sl10, sl11, sl12, sl13, sl14, sl15, sl16, sl17, sl18, sl19, sl20, sl21, sl22, sl23, sl24, sl25, sl26, sl27, sl28, sl29, sl30, sl31, sl32, sl33, sl34, sl35, sl36, sl37, sl38, sl39, sl40, sl41, sl42, sl43, sl44, sl45, sl46, sl47, sl48, sl49, sl50, sl51, sl52, sl53, sl54, sl55, sl56, sl57, sl58, sl59, sl60, sl61, sl62, sl63, sl64, sl65, sl66, sl67, sl68, sl69, sl70, sl71, sl72, sl73, sl74, sl75, sl76, sl77, sl78, sl79, sl80, sl81, sl82, sl83, sl84, sl85, sl86, sl87, sl88, sl89, sl90, sl91, sl92, sl93, sl94, sl95, sl96, sl97, sl98, sl99, sl100, sl101, sl102, sl103, sl104, sl105, sl106, sl107, sl108, sl109, sl110, sl111, sl112, sl113, sl114, sl115, sl116, sl117, sl118, sl119, sl120, sl121, sl122, sl123, sl124, sl125, sl126, sl127, sl128, sl129, sl130, sl131, sl132, sl133, sl134, sl135, sl136, sl137, sl138, sl139, sl140, sl141, sl142, sl143, sl144, sl145, sl146, sl147, sl148, sl149, sl150, sl151, sl152, sl153, sl154, sl155, sl156, sl157, sl158, sl159, sl160, sl161, sl162, sl163, sl164, sl165, sl166, sl167, sl168, sl169, sl170, sl171, sl172, sl173, sl174, sl175, sl176, sl177, sl178, sl179, sl180, sl181, sl182, sl183, sl184, sl185, sl186, sl187, sl188, sl189, sl190, sl191, sl192, sl193, sl194, sl195, sl196, sl197, sl198, sl199, sl200, sl201, sl202, sl203, sl204, sl205, sl206, sl207, sl208], []⟩ (wr.alloc (.cells #[.int .i64 0, .string ⟨#[]⟩, .int .i64 0, .bool false, .int .i64 (a : Int)] 94)) := by
 have hx0 : 0 < (s.extract a s.size).size := by rw [ByteArray.size_extract]; omega
 have hbx : bt (s.extract a s.size) 0 = bt s a := by rw [bt_suffix]; rfl
 have hlt' : (a : Int) < (s.size : Int) := by omega
 have hw1 : IntKind.i64.wrap ((a : Int) + 1) = (a : Int) + 1 := IntWalk.i64_in _ (by omega);have HQ := Hd hQ;clear hQ
 conv => arg 2; whnf
 obtain ⟨hsp, h8, hn0, rfl, rfl, hk⟩ := first_word hx0 (by rw [hbx]; exact hl) hf;have hla : letAt s (a : Int).toNat = true := hl;go_wp2_with fail
 refine (isLetter_ref s (a : Int) _ (by omega)).mono ?_;rintro e' w' ⟨rfl, h'⟩;subst w';rw [hla];go_wp2_with fail
 have hat := SpanIs.at (Nat.le_of_lt hlt) hsp;have HE2 := Hd (span_end hat (by decide));have HE1 := Hd hat.2.1;have hen := hat.1;have htx := ext_ext hat.1;rw [htx] at HY2;have hk2 := hk;rw [htx] at hk2;have HK := Hd hk2;clear hat hk hk2 htx hsp
 go_loopw [7] (fun i wr2 => ∃ j : Nat, j <= n /\ i = .int .i64 ((a + j : Nat) : Int) /\ wr2 = wr.alloc (.cells #[.int .i64 0, .string ⟨#[]⟩, .int .i64 0, .bool false, .int .i64 (a : Int)] 94)) (fun i _ => s.size - (intOf i).toNat)
 case atStart => exact ⟨0, Nat.zero_le _, rfl, rfl⟩
 case round =>
  obtain ⟨j, hj, rfl, rfl⟩ := hrel;obtain ⟨e, he⟩ : ∃ e, e = a + j := ⟨_, rfl⟩;rw [<- he];have hw2 : IntKind.i64.wrap ((e : Int) + 1) = (e : Int) + 1 := IntWalk.i64_in _ (by omega);have HE := Hd he
  by_cases hjm : j < n
  ·have hle : letAt s (e : Int).toNat = true := by rw [he]; exact HE1.out j hjm
   clear he;go_wp2_with fail
   refine (isLetter_ref s (e : Int) _ (by omega)).mono ?_;rintro e' w' ⟨rfl, h'⟩;subst w';rw [hle];go_wp2_with fail
   go_roundw
   case rel => exact ⟨j + 1, by omega, by have := HE.out; show Value.int _ _ = Value.int _ _; congr 1; omega, by first | rfl | trivial⟩
   case measure => simp [intOf]; have := HE.out; omega
  ·obtain rfl : j = n := by omega
   have hle : letAt s (e : Int).toNat = false := by rw [he]; exact HE2.out
   have hsl1 : (a : Int) <= (e : Int) := by omega
   have hsl2 : (e : Int) <= (s.size : Int) := by omega
   have hw3 : IntKind.i64.wrap ((e : Int) - (a : Int)) = (e : Int) - (a : Int) := IntWalk.i64_in _ (by omega);have h88 : ¬ 8 < (e : Int) - (a : Int) := by omega
   rw [<- he] at HY2 HK HLT;clear he;go_wp2_with fail
   refine (isLetter_ref s (e : Int) _ (by omega)).mono ?_;rintro e' w' ⟨rfl, h'⟩;subst w';rw [hle];go_wp2_with fail
   go_region
   have HTX := Hd (TBox.made wr 94 1 (s.extract a e) 0 false (a : Int));have hB1 := rkbelow_dN (rkbelow_box wr (.cells #[.int .i64 1, .string (s.extract a e), .int .i64 0, .bool false, .int .i64 (a : Int)] 94)) 1;obtain ⟨⟨c0, c1, c2, c3, c4⟩, -⟩ := HTX.out;go_wp2_with fail
   refine (isWord_ref (s.extract a e) _).mono ?_;rintro e' w2 ⟨rfl, hb2⟩;have HOWN : Hid (∀ k, sl4.ownBlock = some k -> k ≠ wr.heap.size) := Hd (fun k hk => by have := HG.out.lt k hk; omega);have HB3 := Hd (hB1.trans (hb2.mono hB1.size));have HT2 := Hd (TBox.below (w := (wr.alloc (.cells #[.int .i64 1, .string (s.extract a e), .int .i64 0, .bool false, .int .i64 (a : Int)] 94)).drew) HTX.out hb2);have HG2 := Hd (HG.out.below HB3.out);have HFL2 : Hid (w.heap.size < w2.heap.size) := Hd (Nat.lt_of_lt_of_le (FB.lt HF.out) HB3.out.size);have HF2 := Hd (HF.out.below HB3.out (FB.lt HF.out));have HW2 := Hd (HW.out.trans (HB3.out.mono HW.out.size));have HGN : Hid (wr.heap.size ≠ w.heap.size) := Hd (by have := FB.lt HF.out; omega);have HWL := Hd HW.out.size;have HS9 : Hid (wr.heap.size < w2.heap.size) := Hd (Nat.lt_of_lt_of_le (by simp) hb2.size);clear hB1 hb2 c0 c1 c2 c3 c4 HG HF HW HB3 HTX
   rcases HK.out with ⟨rfl, hwd⟩ | ⟨rfl, hwd⟩
   ·rw [hwd];obtain ⟨⟨d0, d1, d2, d3, d4⟩, g0, g1, g2, g3, g4⟩ := HT2.out;go_wp2_with fail
    try go_wp2_with fail
    exact HQ.out e _ _ _ _ _ _ _ _ _ _ _ _ _ _ _ _ _ _ _ _ _ _ _ _ _ _ _ _ _ _ _ _ _ _ _ _ _ _ _ _ _ _ _ _ _ _ _ _ _ _ _ _ _ _ _ _ _ _ _ _ _ _ _ _ _ _ _ _ _ _ _ _ _ _ _ _ _ _ _ _ _ _ _ _ _ _ _ _ _ _ _ _ _ _ _ _ _ _ _ _ _ _ _ _ _ _ _ _ _ _ _ _ _ _ _ _ _ _ _ _ _ _ _ _ _ _ _ _ _ _ _ _ _ _ _ _ _ _ _ _ _ _ _ _ _ _ _ _ _ _ _ _ _ _ _ _ _ _ _ _ _ _ _ _ _ _ _ _ _ _ _ _ _ _ _ _ _ _ _ _ _ _ _ _ _ _ _ _ _ _ _ _ _ _ _ _ ⟨4, 0, false, by have := HLT.out; omega, by have := HLT.out; omega, HY2.out, HT2.out.kind 4, HG2.out.away (p := ⟨wr.heap.size, 0, none⟩) HOWN.out (.int .i64 4), HF2.out.set (i := 0) HGN.out (.int .i64 4), HW2.out.setCell (p := ⟨wr.heap.size, 0, none⟩) HWL.out (.int .i64 4), by simpa using HS9.out⟩
   ·rw [hwd];go_wp2_with fail
    try go_wp2_with fail
    exact HQ.out e _ _ _ _ _ _ _ _ _ _ _ _ _ _ _ _ _ _ _ _ _ _ _ _ _ _ _ _ _ _ _ _ _ _ _ _ _ _ _ _ _ _ _ _ _ _ _ _ _ _ _ _ _ _ _ _ _ _ _ _ _ _ _ _ _ _ _ _ _ _ _ _ _ _ _ _ _ _ _ _ _ _ _ _ _ _ _ _ _ _ _ _ _ _ _ _ _ _ _ _ _ _ _ _ _ _ _ _ _ _ _ _ _ _ _ _ _ _ _ _ _ _ _ _ _ _ _ _ _ _ _ _ _ _ _ _ _ _ _ _ _ _ _ _ _ _ _ _ _ _ _ _ _ _ _ _ _ _ _ _ _ _ _ _ _ _ _ _ _ _ _ _ _ _ _ _ _ _ _ _ _ _ _ _ _ _ _ _ _ _ _ _ _ _ _ _ ⟨1, 0, false, by have := HLT.out; omega, by have := HLT.out; omega, HY2.out, HT2.out, HG2.out, HF2.out, HW2.out, HS9.out⟩
set_option linter.unusedVariables false
theorem sw_sign {Q : Exit -> Act -> World -> Prop} (s : ByteArray) (a n : Nat) (k v : Int) (p : Bool) (L : List Tk) (w wr : World) (hsz : s.size <= 4000) (hlt : a < s.size) (HR : Hid (RT s a L)) (sl1 sl2 sl3 sl4 sl8 sl9 sl10 sl11 sl12 sl13 sl14 sl15 sl16 sl17 sl18 sl19 sl20 sl21 sl22 sl23 sl24 sl25 sl26 sl27 sl28 sl29 sl30 sl31 sl32 sl33 sl34 sl35 sl36 sl37 sl38 sl39 sl40 sl41 sl42 sl43 sl44 sl45 sl46 sl47 sl48 sl49 sl50 sl51 sl52 sl53 sl54 sl55 sl56 sl57 sl58 sl59 sl60 sl61 sl62 sl63 sl64 sl65 sl66 sl67 sl68 sl69 sl70 sl71 sl72 sl73 sl74 sl75 sl76 sl77 sl78 sl79 sl80 sl81 sl82 sl83 sl84 sl85 sl86 sl87 sl88 sl89 sl90 sl91 sl92 sl93 sl94 sl95 sl96 sl97 sl98 sl99 sl100 sl101 sl102 sl103 sl104 sl105 sl106 sl107 sl108 sl109 sl110 sl111 sl112 sl113 sl114 sl115 sl116 sl117 sl118 sl119 sl120 sl121 sl122 sl123 sl124 sl125 sl126 sl127 sl128 sl129 sl130 sl131 sl132 sl133 sl134 sl135 sl136 sl137 sl138 sl139 sl140 sl141 sl142 sl143 sl144 sl145 sl146 sl147 sl148 sl149 sl150 sl151 sl152 sl153 sl154 sl155 sl156 sl157 sl158 sl159 sl160 sl161 sl162 sl163 sl164 sl165 sl166 sl167 sl168 sl169 sl170 sl171 sl172 sl173 sl174 sl175 sl176 sl177 sl178 sl179 sl180 sl181 sl182 sl183 sl184 sl185 sl186 sl187 sl188 sl189 sl190 sl191 sl192 sl193 sl194 sl195 sl196 sl197 sl198 sl199 sl200 sl201 sl202 sl203 sl204 sl205 sl206 sl207 sl208 : Value) (HG : Hid (GrowT wr (w.heap.size + 1) sl4 L)) (HF : Hid (FB wr w.heap.size)) (HW : Hid (Below w.heap.size w wr))
 (HY2 : Hid (Rst s (0, []) (a + n, L ++ [⟨k, (s.extract a s.size).extract 0 n, v, p, a⟩]))) (HLT : Hid (a < a + n /\ a + n <= s.size)) (hf : firstO (s.extract a s.size) = .tok k n v p)
 (hl' : letB (bt s a) = false) (hdg' : digB (bt s a) = false)
 (hQ : ∀ (E : Nat) (wx : World) (d8 d9 d14 d15 d16 d17 d18 d19 d20 d21 d22 d23 d24 d25 d26 d27 d28 d29 d30 d31 d32 d33 d34 d35 d36 d37 d38 d39 d40 d41 d42 d43 d44 d45 d46 d47 d48 d49 d50 d51 d52 d53 d54 d55 d56 d57 d58 d59 d60 d61 d62 d63 d64 d65 d66 d67 d68 d69 d70 d71 d72 d73 d74 d75 d76 d77 d78 d79 d80 d81 d82 d83 d84 d85 d86 d87 d88 d89 d90 d91 d92 d93 d94 d95 d96 d97 d98 d99 d100 d101 d102 d103 d104 d105 d106 d107 d108 d109 d110 d111 d112 d113 d114 d115 d116 d117 d118 d119 d120 d121 d122 d123 d124 d125 d126 d127 d128 d129 d130 d131 d132 d133 d134 d135 d136 d137 d138 d139 d140 d141 d142 d143 d144 d145 d146 d147 d148 d149 d150 d151 d152 d153 d154 d155 d156 d157 d158 d159 d160 d161 d162 d163 d164 d165 d166 d167 d168 d169 d170 d171 d172 d173 d174 d175 d176 d177 d178 d179 d180 d181 d182 d183 d184 d185 d186 d187 d188 d189 d190 d191 d192 d193 d194 d195 d196 d197 d198 d199 d200 d201 d202 d203 d204 d205 d206 : Value), SwAt s a L wr w sl4 E wx -> Q .normal ⟨#[.string s, sl1, sl2, sl3, sl4, .int .i64 (a : Int), .pointer (some ⟨wr.heap.size, 0, none⟩), .int .i64 (E : Int), d8, d9, sl10, sl11, sl12, sl13, d14, d15, d16, d17, d18, d19, d20, d21, d22, d23, d24, d25, d26, d27, d28, d29, d30, d31, d32, d33, d34, d35, d36, d37, d38, d39, d40, d41, d42, d43, d44, d45, d46, d47, d48, d49, d50, d51, d52, d53, d54, d55, d56, d57, d58, d59, d60, d61, d62, d63, d64, d65, d66, d67, d68, d69, d70, d71, d72, d73, d74, d75, d76, d77, d78, d79, d80, d81, d82, d83, d84, d85, d86, d87, d88, d89, d90, d91, d92, d93, d94, d95, d96, d97, d98, d99, d100, d101, d102, d103, d104, d105, d106, d107, d108, d109, d110, d111, d112, d113, d114, d115, d116, d117, d118, d119, d120, d121, d122, d123, d124, d125, d126, d127, d128, d129, d130, d131, d132, d133, d134, d135, d136, d137, d138, d139, d140, d141, d142, d143, d144, d145, d146, d147, d148, d149, d150, d151, d152, d153, d154, d155, d156, d157, d158, d159, d160, d161, d162, d163, d164, d165, d166, d167, d168, d169, d170, d171, d172, d173, d174, d175, d176, d177, d178, d179, d180, d181, d182, d183, d184, d185, d186, d187, d188, d189, d190, d191, d192, d193, d194, d195, d196, d197, d198, d199, d200, d201, d202, d203, d204, d205, d206, sl207, sl208], []⟩ wx) :
 Code.wp Tryz.prog swC Q ⟨#[.string s, sl1, sl2, sl3, sl4, .int .i64 (a : Int), .pointer (some ⟨wr.heap.size, 0, none⟩), .int .i64 (a : Int), sl8, sl9, sl10, sl11, sl12, sl13, sl14, sl15, sl16, sl17, sl18, sl19, sl20, sl21, sl22, sl23, sl24, sl25, sl26, sl27, sl28, sl29, sl30, sl31, sl32, sl33, sl34, sl35, sl36, sl37, sl38, sl39, sl40, sl41, sl42, sl43, sl44, sl45, sl46, sl47, sl48, sl49, sl50, sl51, sl52, sl53, sl54, sl55, sl56, sl57, sl58, sl59, sl60, sl61, sl62, sl63, sl64, sl65, sl66, sl67, sl68, sl69, sl70, sl71, sl72, sl73, sl74, sl75, sl76, sl77, sl78, sl79, sl80, sl81, sl82, sl83, sl84, sl85, sl86, sl87, sl88, sl89, sl90, sl91, sl92, sl93, sl94, sl95, sl96, sl97, sl98, sl99, sl100, sl101, sl102, sl103, sl104, sl105, sl106, sl107, sl108, sl109, sl110, sl111, sl112, sl113, sl114, sl115, sl116, sl117, sl118, sl119, sl120, sl121, sl122, sl123, sl124, sl125, sl126, sl127, sl128, sl129, sl130, sl131, sl132, sl133, sl134, sl135, sl136, sl137, sl138, sl139, sl140, sl141, sl142, sl143, sl144, sl145, sl146, sl147, sl148, sl149, sl150, sl151, sl152, sl153, sl154, sl155, sl156, sl157, sl158, sl159, sl160, sl161, sl162, sl163, sl164, sl165, sl166, sl167, sl168, sl169, sl170, sl171, sl172, sl173, sl174, sl175, sl176, sl177, sl178, sl179, sl180, sl181, sl182, sl183, sl184, sl185, sl186, sl187, sl188, sl189, sl190, sl191, sl192, sl193, sl194, sl195, sl196, sl197, sl198, sl199, sl200, sl201, sl202, sl203, sl204, sl205, sl206, sl207, sl208], []⟩ (wr.alloc (.cells #[.int .i64 0, .string ⟨#[]⟩, .int .i64 0, .bool false, .int .i64 (a : Int)] 94)) := by
 have hx0 : 0 < (s.extract a s.size).size := by rw [ByteArray.size_extract]; omega
 have hbx : bt (s.extract a s.size) 0 = bt s a := by rw [bt_suffix]; rfl
 have hlt' : (a : Int) < (s.size : Int) := by omega
 have hw1 : IntKind.i64.wrap ((a : Int) + 1) = (a : Int) + 1 := IntWalk.i64_in _ (by omega);have HQ := Hd hQ;clear hQ
 conv => arg 2; whnf
 have hla : letAt s (a : Int).toNat = false := hl';have hda : digAt s (a : Int).toNat = false := hdg';obtain ⟨rfl, rfl, rfl, hk⟩ := first_sign (by rw [hbx]; exact hl') (by rw [hbx]; exact hdg') hf;have hbt := bt_in hlt;have hx1 : bt (s.extract a s.size) 1 = bt s (a + 1) := bt_suffix s a 1;have hlo := long_iff (s.extract a s.size);rw [hbx, hx1] at hlo;have hsg : signB (((s[a]).toNat : Nat) : Int) = true := by
  rcases hk with ⟨h1, _⟩ | ⟨_, h2, _⟩
  ·rw [<- hbt, (hlo.1 h1).1]; decide
  ·rw [<- hbt, <- hbx]; exact h2
 have HLO := Hd hlo;have HBT := Hd hbt;have HKK := Hd hk;have hc0 : (0 : Int) <= (((s[a]).toNat : Nat) : Int) := by omega
 have hc1 : (((s[a]).toNat : Nat) : Int) < 256 := by have := (s[a]).toNat_lt; omega
 clear hlo hbt hk hx1 hbx hx0 hl' hdg' hf
 by_cases hc : (((s[a]).toNat : Nat) : Int) = 60
 ·have hcT : ((((s[a]).toNat : Nat) : Int) == 60) = true := by rw [hc]; rfl
  have hcD : decide ((((s[a]).toNat : Nat) : Int) = 60) = true := decide_eq_true hc;obtain ⟨e, he⟩ : ∃ e, e = a + 1 := ⟨_, rfl⟩;have hwe : IntKind.i64.wrap ((a : Int) + 1) = (e : Int) := by rw [hw1, he]; omega
  have HE := Hd he;have hea : (a : Int) < (e : Int) := by omega
  clear hw1
  by_cases h1 : e < s.size
  ·have h1' : (e : Int) < (s.size : Int) := by omega
   have hbe := bt_in h1
   by_cases h61 : (((s[e]).toNat : Nat) : Int) = 61
   ·have h6T : ((((s[e]).toNat : Nat) : Int) == 61) = true := by rw [h61]; rfl
    have h6D : decide ((((s[e]).toNat : Nat) : Int) = 61) = true := decide_eq_true h61;obtain ⟨f, hff⟩ : ∃ f, f = a + 2 := ⟨_, rfl⟩;have hwf : IntKind.i64.wrap ((e : Int) + 1) = (f : Int) := by rw [IntWalk.i64_in _ (by omega)]; omega
    have hn : n = 2 := by
     rcases HKK.out with ⟨_, h2⟩ | ⟨h2, _⟩
     ·exact h2
     ·rw [HLO.out.2 ⟨HBT.out.trans hc, by rw [<- he]; exact hbe.trans h61⟩] at h2
      cases h2
    subst hn;have hE : Hid (f = a + 2) := hff;have hfa : (a : Int) < (f : Int) /\ (f : Int) <= (s.size : Int) := by omega
    clear he hbe;obtain ⟨hfa1, hfa2⟩ := hfa;clear hff hc h61;have hEE := hE.out;have hsl1 : (a : Int) <= (f : Int) := by omega
    have hsl2 : (f : Int) <= (s.size : Int) := by omega
    have hse : a + 2 <= s.size := by omega
    rw [ext_ext hse] at HY2;rw [<- hE.out] at HY2 HLT;clear hEE hse;go_wp2_with fail
    refine (isLetter_ref s (a : Int) _ (by omega)).mono ?_;rintro e' w' ⟨rfl, h'⟩;subst w';rw [hla];go_wp2_with fail
    refine (isDigit_ref s (a : Int) _ (by omega)).mono ?_;rintro e' w' ⟨rfl, h'⟩;subst w';rw [hda];go_wp2_with fail
    refine (isSign_ref _ _ hc0 hc1).mono ?_;rintro e' w' ⟨q, rfl, h'⟩;subst w';rw [hsg];go_wp2_with fail
    go_region
    have hB1 := rkbelow_dN (rkbelow_box wr (.cells #[.int .i64 0, .string ⟨#[]⟩, .int .i64 0, .bool false, .int .i64 (a : Int)] 94)) (q + 1);have hT1 : TBox ((wr.alloc (.cells #[.int .i64 0, .string ⟨#[]⟩, .int .i64 0, .bool false, .int .i64 (a : Int)] 94)).drewN (q + 1)) wr.heap.size 0 ⟨#[]⟩ 0 false (a : Int) := TBox.made wr 94 0 ⟨#[]⟩ 0 false (a : Int);have hown : ∀ k, sl4.ownBlock = some k -> k ≠ wr.heap.size := fun k hk => by have := HG.out.lt k hk; omega
    have hfl := FB.lt HF.out;have HS9 : Hid (wr.heap.size < ((((wr.alloc (.cells #[.int .i64 0, .string ⟨#[]⟩, .int .i64 0, .bool false, .int .i64 (a : Int)] 94)).drewN (q + 1)).setCell ⟨wr.heap.size, 0, none⟩ (.int .i64 3)).setCell ⟨wr.heap.size, 1, none⟩ (.string (s.extract a f))).heap.size) := Hd (by simp)
    try go_wp2_with fail
    exact HQ.out f _ _ _ _ _ _ _ _ _ _ _ _ _ _ _ _ _ _ _ _ _ _ _ _ _ _ _ _ _ _ _ _ _ _ _ _ _ _ _ _ _ _ _ _ _ _ _ _ _ _ _ _ _ _ _ _ _ _ _ _ _ _ _ _ _ _ _ _ _ _ _ _ _ _ _ _ _ _ _ _ _ _ _ _ _ _ _ _ _ _ _ _ _ _ _ _ _ _ _ _ _ _ _ _ _ _ _ _ _ _ _ _ _ _ _ _ _ _ _ _ _ _ _ _ _ _ _ _ _ _ _ _ _ _ _ _ _ _ _ _ _ _ _ _ _ _ _ _ _ _ _ _ _ _ _ _ _ _ _ _ _ _ _ _ _ _ _ _ _ _ _ _ _ _ _ _ _ _ _ _ _ _ _ _ _ _ _ _ _ _ _ _ _ _ _ _ ⟨3, 0, false, by have := HLT.out; omega, by have := HLT.out; omega, HY2.out, (hT1.kind 3).txt (s.extract a f), ((HG.out.below hB1).away (p := ⟨wr.heap.size, 0, none⟩) hown (.int .i64 3)).away (p := ⟨wr.heap.size, 1, none⟩) hown (.string (s.extract a f)), ((HF.out.below hB1 hfl).set (b := wr.heap.size) (i := 0) (by omega) (.int .i64 3)).set (b := wr.heap.size) (i := 1) (by omega) (.string (s.extract a f)), ((HW.out.trans (hB1.mono HW.out.size)).setCell (p := ⟨wr.heap.size, 0, none⟩) HW.out.size (.int .i64 3)).setCell (p := ⟨wr.heap.size, 1, none⟩) HW.out.size (.string (s.extract a f)), HS9.out⟩
   ·have hce : ((((s[e]).toNat : Nat) : Int) == 61) = false := by simpa using h61
    have hn : n = 1 := by
     rcases HKK.out with ⟨h2, _⟩ | ⟨_, _, h2⟩
     ·exact absurd (hbe.symm.trans (by rw [he]; exact (HLO.out.1 h2).2)) h61
     ·exact h2
    subst hn;have hE : Hid (e = a + 1) := he;clear he hbe hc h61;have hEE := hE.out;have hsl1 : (a : Int) <= (e : Int) := by omega
    have hsl2 : (e : Int) <= (s.size : Int) := by omega
    have hse : a + 1 <= s.size := by omega
    rw [ext_ext hse] at HY2;rw [<- hE.out] at HY2 HLT;clear hEE hse;go_wp2_with fail
    refine (isLetter_ref s (a : Int) _ (by omega)).mono ?_;rintro e' w' ⟨rfl, h'⟩;subst w';rw [hla];go_wp2_with fail
    refine (isDigit_ref s (a : Int) _ (by omega)).mono ?_;rintro e' w' ⟨rfl, h'⟩;subst w';rw [hda];go_wp2_with fail
    refine (isSign_ref _ _ hc0 hc1).mono ?_;rintro e' w' ⟨q, rfl, h'⟩;subst w';rw [hsg];go_wp2_with fail
    go_region
    have hB1 := rkbelow_dN (rkbelow_box wr (.cells #[.int .i64 0, .string ⟨#[]⟩, .int .i64 0, .bool false, .int .i64 (a : Int)] 94)) (q + 1);have hT1 : TBox ((wr.alloc (.cells #[.int .i64 0, .string ⟨#[]⟩, .int .i64 0, .bool false, .int .i64 (a : Int)] 94)).drewN (q + 1)) wr.heap.size 0 ⟨#[]⟩ 0 false (a : Int) := TBox.made wr 94 0 ⟨#[]⟩ 0 false (a : Int);have hown : ∀ k, sl4.ownBlock = some k -> k ≠ wr.heap.size := fun k hk => by have := HG.out.lt k hk; omega
    have hfl := FB.lt HF.out;have HS9 : Hid (wr.heap.size < ((((wr.alloc (.cells #[.int .i64 0, .string ⟨#[]⟩, .int .i64 0, .bool false, .int .i64 (a : Int)] 94)).drewN (q + 1)).setCell ⟨wr.heap.size, 0, none⟩ (.int .i64 3)).setCell ⟨wr.heap.size, 1, none⟩ (.string (s.extract a e))).heap.size) := Hd (by simp)
    try go_wp2_with fail
    exact HQ.out e _ _ _ _ _ _ _ _ _ _ _ _ _ _ _ _ _ _ _ _ _ _ _ _ _ _ _ _ _ _ _ _ _ _ _ _ _ _ _ _ _ _ _ _ _ _ _ _ _ _ _ _ _ _ _ _ _ _ _ _ _ _ _ _ _ _ _ _ _ _ _ _ _ _ _ _ _ _ _ _ _ _ _ _ _ _ _ _ _ _ _ _ _ _ _ _ _ _ _ _ _ _ _ _ _ _ _ _ _ _ _ _ _ _ _ _ _ _ _ _ _ _ _ _ _ _ _ _ _ _ _ _ _ _ _ _ _ _ _ _ _ _ _ _ _ _ _ _ _ _ _ _ _ _ _ _ _ _ _ _ _ _ _ _ _ _ _ _ _ _ _ _ _ _ _ _ _ _ _ _ _ _ _ _ _ _ _ _ _ _ _ _ _ _ _ _ ⟨3, 0, false, by have := HLT.out; omega, by have := HLT.out; omega, HY2.out, (hT1.kind 3).txt (s.extract a e), ((HG.out.below hB1).away (p := ⟨wr.heap.size, 0, none⟩) hown (.int .i64 3)).away (p := ⟨wr.heap.size, 1, none⟩) hown (.string (s.extract a e)), ((HF.out.below hB1 hfl).set (b := wr.heap.size) (i := 0) (by omega) (.int .i64 3)).set (b := wr.heap.size) (i := 1) (by omega) (.string (s.extract a e)), ((HW.out.trans (hB1.mono HW.out.size)).setCell (p := ⟨wr.heap.size, 0, none⟩) HW.out.size (.int .i64 3)).setCell (p := ⟨wr.heap.size, 1, none⟩) HW.out.size (.string (s.extract a e)), HS9.out⟩
  ·have h1' : ¬ (e : Int) < (s.size : Int) := by omega
   have hn : n = 1 := by
    rcases HKK.out with ⟨h2, _⟩ | ⟨_, _, h2⟩
    ·have := (HLO.out.1 h2).2;rw [<- he, bt_out h1] at this;omega
    ·exact h2
   subst hn;have hE : Hid (e = a + 1) := he;clear he hc;have hEE := hE.out;have hsl1 : (a : Int) <= (e : Int) := by omega
   have hsl2 : (e : Int) <= (s.size : Int) := by omega
   have hse : a + 1 <= s.size := by omega
   rw [ext_ext hse] at HY2;rw [<- hE.out] at HY2 HLT;clear hEE hse;go_wp2_with fail
   refine (isLetter_ref s (a : Int) _ (by omega)).mono ?_;rintro e' w' ⟨rfl, h'⟩;subst w';rw [hla];go_wp2_with fail
   refine (isDigit_ref s (a : Int) _ (by omega)).mono ?_;rintro e' w' ⟨rfl, h'⟩;subst w';rw [hda];go_wp2_with fail
   refine (isSign_ref _ _ hc0 hc1).mono ?_;rintro e' w' ⟨q, rfl, h'⟩;subst w';rw [hsg];go_wp2_with fail
   go_region
   have hB1 := rkbelow_dN (rkbelow_box wr (.cells #[.int .i64 0, .string ⟨#[]⟩, .int .i64 0, .bool false, .int .i64 (a : Int)] 94)) (q + 1);have hT1 : TBox ((wr.alloc (.cells #[.int .i64 0, .string ⟨#[]⟩, .int .i64 0, .bool false, .int .i64 (a : Int)] 94)).drewN (q + 1)) wr.heap.size 0 ⟨#[]⟩ 0 false (a : Int) := TBox.made wr 94 0 ⟨#[]⟩ 0 false (a : Int);have hown : ∀ k, sl4.ownBlock = some k -> k ≠ wr.heap.size := fun k hk => by have := HG.out.lt k hk; omega
   have hfl := FB.lt HF.out;have HS9 : Hid (wr.heap.size < ((((wr.alloc (.cells #[.int .i64 0, .string ⟨#[]⟩, .int .i64 0, .bool false, .int .i64 (a : Int)] 94)).drewN (q + 1)).setCell ⟨wr.heap.size, 0, none⟩ (.int .i64 3)).setCell ⟨wr.heap.size, 1, none⟩ (.string (s.extract a e))).heap.size) := Hd (by simp)
   try go_wp2_with fail
   exact HQ.out e _ _ _ _ _ _ _ _ _ _ _ _ _ _ _ _ _ _ _ _ _ _ _ _ _ _ _ _ _ _ _ _ _ _ _ _ _ _ _ _ _ _ _ _ _ _ _ _ _ _ _ _ _ _ _ _ _ _ _ _ _ _ _ _ _ _ _ _ _ _ _ _ _ _ _ _ _ _ _ _ _ _ _ _ _ _ _ _ _ _ _ _ _ _ _ _ _ _ _ _ _ _ _ _ _ _ _ _ _ _ _ _ _ _ _ _ _ _ _ _ _ _ _ _ _ _ _ _ _ _ _ _ _ _ _ _ _ _ _ _ _ _ _ _ _ _ _ _ _ _ _ _ _ _ _ _ _ _ _ _ _ _ _ _ _ _ _ _ _ _ _ _ _ _ _ _ _ _ _ _ _ _ _ _ _ _ _ _ _ _ _ _ _ _ _ _ ⟨3, 0, false, by have := HLT.out; omega, by have := HLT.out; omega, HY2.out, (hT1.kind 3).txt (s.extract a e), ((HG.out.below hB1).away (p := ⟨wr.heap.size, 0, none⟩) hown (.int .i64 3)).away (p := ⟨wr.heap.size, 1, none⟩) hown (.string (s.extract a e)), ((HF.out.below hB1 hfl).set (b := wr.heap.size) (i := 0) (by omega) (.int .i64 3)).set (b := wr.heap.size) (i := 1) (by omega) (.string (s.extract a e)), ((HW.out.trans (hB1.mono HW.out.size)).setCell (p := ⟨wr.heap.size, 0, none⟩) HW.out.size (.int .i64 3)).setCell (p := ⟨wr.heap.size, 1, none⟩) HW.out.size (.string (s.extract a e)), HS9.out⟩
 ·have hce : ((((s[a]).toNat : Nat) : Int) == 60) = false := by simpa using hc
  have hcd := dEf hc;have hn : n = 1 := by
   rcases HKK.out with ⟨h1, _⟩ | ⟨_, _, h2⟩
   ·exact absurd ((HBT.out).symm.trans (HLO.out.1 h1).1) hc
   ·exact h2
  subst hn;obtain ⟨e, he⟩ : ∃ e, e = a + 1 := ⟨_, rfl⟩;have hwe : IntKind.i64.wrap ((a : Int) + 1) = (e : Int) := by rw [hw1, he]; omega
  have hea : (a : Int) < (e : Int) := by omega
  have hE : Hid (e = a + 1) := he;clear he hw1;have hEE := hE.out;have hsl1 : (a : Int) <= (e : Int) := by omega
  have hsl2 : (e : Int) <= (s.size : Int) := by omega
  have hse : a + 1 <= s.size := by omega
  rw [ext_ext hse] at HY2;rw [<- hE.out] at HY2 HLT;clear hEE hse;go_wp2_with fail
  refine (isLetter_ref s (a : Int) _ (by omega)).mono ?_;rintro e' w' ⟨rfl, h'⟩;subst w';rw [hla];go_wp2_with fail
  refine (isDigit_ref s (a : Int) _ (by omega)).mono ?_;rintro e' w' ⟨rfl, h'⟩;subst w';rw [hda];go_wp2_with fail
  refine (isSign_ref _ _ hc0 hc1).mono ?_;rintro e' w' ⟨q, rfl, h'⟩;subst w';rw [hsg];go_wp2_with fail
  go_region
  have hB1 := rkbelow_dN (rkbelow_box wr (.cells #[.int .i64 0, .string ⟨#[]⟩, .int .i64 0, .bool false, .int .i64 (a : Int)] 94)) (q + 1);have hT1 : TBox ((wr.alloc (.cells #[.int .i64 0, .string ⟨#[]⟩, .int .i64 0, .bool false, .int .i64 (a : Int)] 94)).drewN (q + 1)) wr.heap.size 0 ⟨#[]⟩ 0 false (a : Int) := TBox.made wr 94 0 ⟨#[]⟩ 0 false (a : Int);have hown : ∀ k, sl4.ownBlock = some k -> k ≠ wr.heap.size := fun k hk => by have := HG.out.lt k hk; omega
  have hfl := FB.lt HF.out;have HS9 : Hid (wr.heap.size < ((((wr.alloc (.cells #[.int .i64 0, .string ⟨#[]⟩, .int .i64 0, .bool false, .int .i64 (a : Int)] 94)).drewN (q + 1)).setCell ⟨wr.heap.size, 0, none⟩ (.int .i64 3)).setCell ⟨wr.heap.size, 1, none⟩ (.string (s.extract a e))).heap.size) := Hd (by simp)
  try go_wp2_with fail
  exact HQ.out e _ _ _ _ _ _ _ _ _ _ _ _ _ _ _ _ _ _ _ _ _ _ _ _ _ _ _ _ _ _ _ _ _ _ _ _ _ _ _ _ _ _ _ _ _ _ _ _ _ _ _ _ _ _ _ _ _ _ _ _ _ _ _ _ _ _ _ _ _ _ _ _ _ _ _ _ _ _ _ _ _ _ _ _ _ _ _ _ _ _ _ _ _ _ _ _ _ _ _ _ _ _ _ _ _ _ _ _ _ _ _ _ _ _ _ _ _ _ _ _ _ _ _ _ _ _ _ _ _ _ _ _ _ _ _ _ _ _ _ _ _ _ _ _ _ _ _ _ _ _ _ _ _ _ _ _ _ _ _ _ _ _ _ _ _ _ _ _ _ _ _ _ _ _ _ _ _ _ _ _ _ _ _ _ _ _ _ _ _ _ _ _ _ _ _ _ ⟨3, 0, false, by have := HLT.out; omega, by have := HLT.out; omega, HY2.out, (hT1.kind 3).txt (s.extract a e), ((HG.out.below hB1).away (p := ⟨wr.heap.size, 0, none⟩) hown (.int .i64 3)).away (p := ⟨wr.heap.size, 1, none⟩) hown (.string (s.extract a e)), ((HF.out.below hB1 hfl).set (b := wr.heap.size) (i := 0) (by omega) (.int .i64 3)).set (b := wr.heap.size) (i := 1) (by omega) (.string (s.extract a e)), ((HW.out.trans (hB1.mono HW.out.size)).setCell (p := ⟨wr.heap.size, 0, none⟩) HW.out.size (.int .i64 3)).setCell (p := ⟨wr.heap.size, 1, none⟩) HW.out.size (.string (s.extract a e)), HS9.out⟩
end Go.Proofs.YtmlpedgcpffpnaaGreatDoor
