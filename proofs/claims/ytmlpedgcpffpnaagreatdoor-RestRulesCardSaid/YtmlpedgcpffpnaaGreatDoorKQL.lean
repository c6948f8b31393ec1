/-
  Promise E2: what split's deferred closure does: of a frame that returns, nothing; of a frame that gave up, it lays the fault.
-/
import Derived.Test.YtmlpedgcpffpnaaGreatDoorKQK
import Derived.Defers
import Derived.Laws.Pointers
import Derived.Test.YtmlpedgcpffpnaaGreatDoorKZ0
import Derived.Shelf.Strconv.AtoiAll
import Derived.Maps.AppendAt
import Derived.Deep.RegionLaw
import Derived.Laws.IdiomCopy
import Derived.Laws.MakeOwn
import Derived.OwnWalk
import Derived.Recover
set_option linter.unusedSimpArgs false
set_option maxRecDepth 100000
set_option maxHeartbeats 8000000
namespace Go.Proofs.YtmlpedgcpffpnaaGreatDoor
open Go.RowKit
theorem catch_idle (p q : Addr) (w : World) :
 CallsD Tryz.prog 119 #[.pointer (some p), .pointer (some q)] .returning w fun e u' w' => e = .returned (.tuple #[]) /\ u' = .returning /\ w' = w := by
 refine callsD_of_wpS Tryz.func119 rfl fun c₀ cs hu => ?_
 apply wpS_seq
 apply wpS_region
 simp [wpOpsS, go_sem, recoverD, hu, Tryz.ntmps119, Exit.thenS]
 apply wpS_seq
 apply wpS_region
 simp [wpOpsS, go_sem, Exit.thenS, Array.replicate];refine wpS_cond (t := false) (by simp [Act.eval]) ?_;simp only [Bool.false_eq_true, if_false];refine wpS_of_wp (wp_skip ?_)
 cases c₀
 simp_all [bodyPostS, results, Tryz.results119]
theorem assert_wrong (v : Value) (w : World) : (Instr.typeAssert (.iface 187 v) 20 187 false).run Tryz.prog w = .ok v w := by kernel_rfl
theorem catch_gone (p q : Nat) (e a : Int) (w : World) (v : Value) (hp : w.cell? ⟨p, 0, none⟩ = some v) (hz : w.frozen? ⟨p, 0, none⟩ = false) (h0 : w.cell? ⟨q, 0, none⟩ = some (.int .i64 0)) (h1 : w.cell? ⟨q, 1, none⟩ = some (.int .i64 0)) (z0 : w.frozen? ⟨q, 0, none⟩ = false) (z1 : w.frozen? ⟨q, 1, none⟩ = false) (hpq : p < q) :
 CallsD Tryz.prog 119 #[.pointer (some ⟨p, 0, none⟩), .pointer (some ⟨q, 0, none⟩)] (.panicking (gone e a)) w fun x u' w' => x = .returned (.tuple #[]) /\ u' = .panicking [{ v := .iface 187 (.agg #[.int .i64 e, .int .i64 a]), recovered := true }] /\ w' = (((w.setCell ⟨p, 0, none⟩ (.slice none 0 0)).setCell ⟨q, 0, none⟩ (.int .i64 e)).setCell ⟨q, 1, none⟩ (.int .i64 a)).drew := by
 refine callsD_of_wpS Tryz.func119 rfl fun c₀ cs hu => ?_
 apply wpS_seq
 apply wpS_region
 simp [wpOpsS, go_sem, recoverD, hu, gone, Tryz.ntmps119, Exit.thenS]
 apply wpS_seq
 apply wpS_region
 simp [wpOpsS, go_sem, Exit.thenS, Array.replicate];refine wpS_cond (t := true) (by simp [Act.eval]) ?_;simp only [if_true];refine wpS_of_wp ?_;have has := assert_wrong (.agg #[.int .i64 e, .int .i64 a])
 go_region
 simp [bodyPostS, results, Tryz.results119]
def spanF (P : Int -> Bool) (s : ByteArray) : Nat -> Nat -> Nat
 | 0, _ => 0
 | f + 1, k => if k < s.size /\ P (bt s k) = true then spanF P s f (k + 1) + 1 else 0
def spanN (P : Int -> Bool) (s : ByteArray) : Nat := spanF P s s.size 0
theorem spanF_is (P : Int -> Bool) (s : ByteArray) : ∀ f k, s.size <= k + f -> k <= s.size -> k + spanF P s f k <= s.size /\ (∀ j, j < spanF P s f k -> P (bt s (k + j)) = true) /\ (k + spanF P s f k < s.size -> P (bt s (k + spanF P s f k)) = false)
 | 0, k, h, hk => ⟨by simp [spanF]; omega, fun j hj => by simp [spanF] at hj, fun h' => by simp [spanF] at h'; omega⟩
 | f + 1, k, h, hk => by
   by_cases c : k < s.size /\ P (bt s k) = true
   ·have ih := spanF_is P s f (k + 1) (by omega) (by omega);have e : spanF P s (f + 1) k = spanF P s f (k + 1) + 1 := by simp only [spanF]; rw [if_pos c]
    rw [e];refine ⟨by omega, fun j hj => ?_, fun h' => ?_⟩
    ·by_cases hj0 : j = 0
     ·subst hj0; exact c.2
     ·have := ih.2.1 (j - 1) (by omega);rw [show k + 1 + (j - 1) = k + j by omega] at this;exact this
    ·have := ih.2.2 (by omega);rw [show k + 1 + spanF P s f (k + 1) = k + (spanF P s f (k + 1) + 1) by omega] at this;exact this
   ·have e : spanF P s (f + 1) k = 0 := by simp only [spanF]; rw [if_neg c]
    rw [e];refine ⟨hk, fun j hj => absurd hj (by omega), fun h' => ?_⟩;rw [Nat.add_zero] at h' ⊢
    cases hp : P (bt s k)
    ·rfl
    ·exact absurd ⟨h', hp⟩ c
theorem spanN_is (P : Int -> Bool) (s : ByteArray) : SpanIs P s (spanN P s) := by
 have h := spanF_is P s s.size 0 (by omega) (by omega);simp only [Nat.zero_add] at h;exact h
theorem spanN_eq {P : Int -> Bool} {s : ByteArray} {n : Nat} (h : SpanIs P s n) : n = spanN P s := h.unique (spanN_is P s)
inductive Out where
 | tok (k : Int) (n : Nat) (v : Int) (p : Bool)
 | bad (e : Int) (o : Nat)
def numO (s : ByteArray) (n : Nat) : Out :=
 match Lib.atoiAll (s.extract 0 n).data.toList with
 | .ok u =>
   if 10000000000 < u then .bad 3 0
   else if bt s 0 = 48 /\ 1 < n then .bad 3 0
   else if bt s n ≠ 46 then .tok 2 n (100 * u) false
   else if spanN digB (s.extract (n + 1) s.size) < 2 then .bad 1 n
   else if 100 * u + (10 * (bt s (n + 1) - 48) + (bt s (n + 2) - 48)) <= 1000000000000 then .tok 2 (n + 3) (100 * u + (10 * (bt s (n + 1) - 48) + (bt s (n + 2) - 48))) true
   else .bad 3 0
 | _ => .bad 3 0
def wordO (s : ByteArray) (n : Nat) : Out := if 8 < n then .bad 3 0 else if wordB (s.extract 0 n) = true then .tok 4 n 0 false else .tok 1 n 0 false
def signO (s : ByteArray) : Out := if longB s = true then .tok 3 2 0 false else if signB (bt s 0) = true then .tok 3 1 0 false else .bad 1 0
def firstO (s : ByteArray) : Out := if 0 < spanN letB s then wordO s (spanN letB s) else if 0 < spanN digB s then numO s (spanN digB s) else signO s
def outE (s : ByteArray) (a : Int) : Out -> Ending
 | .tok k n v p => .returned (tokV k (s.extract 0 n) v p a)
 | .bad e o => .panicked (gone e (a + o))
def TabE (w : World) : Prop := ∃ ev, w.cell? ⟨7, 0, none⟩ = some ev /\ (ev = .nilIface \/ ∃ te pe, ev = .iface te pe)
theorem TabE.below {w w' : World} (h : TabE w) (hb : Below w.heap.size w w') : TabE w' := by
 obtain ⟨ev, h1, h2⟩ := h;have hl : 7 < w.heap.size := by
  by_cases hb : 7 < w.heap.size
  ·exact hb
  ·have : w.heap[(⟨7, 0, none⟩ : Addr).block]? = none := Array.getElem?_eq_none (by simpa using hb);simp [World.cell?, this] at h1
 exact ⟨ev, (hb.cell (p := ⟨7, 0, none⟩) hl).trans h1, h2⟩
theorem word_any (s : ByteArray) (a : Int) (w : World) :
 Calls Tryz.prog 158 #[.string s, .int .i64 a] w fun e w' => e = outE s a (wordO s (spanN letB s)) /\ Below w.heap.size w w' := by
 unfold wordO
 by_cases h8 : 8 < spanN letB s
 ·rw [if_pos h8];have := word_gone s a _ w (spanN_is letB s) h8
  simpa [outE] using this
 ·rw [if_neg h8]
  cases hw : wordB (s.extract 0 (spanN letB s))
  ·exact word_name s a _ w (spanN_is letB s) (by omega) hw
  ·exact word_word s a _ w (spanN_is letB s) (by omega) hw
theorem sign_any (s : ByteArray) (a : Int) (w : World) (hs : 0 < s.size) :
 Calls Tryz.prog 161 #[.string s, .int .i64 a] w fun e w' => e = outE s a (signO s) /\ Below w.heap.size w w' := by
 unfold signO
 cases hl : longB s
 ·cases hb : signB (bt s 0)
  ·simp only [Bool.false_eq_true, if_false, outE];have := sign_gone s a w hl hs hb
   simpa using this
  ·exact sign_one s a w hl hs hb
 ·exact sign_long s a w hl
theorem digits_parse : ∀ (l : List UInt8) (acc : Nat), (∀ c ∈ l, 48 <= c.toNat /\ c.toNat <= 57) -> (∃ u : Nat, Lib.parseUint10 acc l = .ok u) \/ Lib.parseUint10 acc l = .range
 | [], acc, _ => .inl ⟨acc, rfl⟩
 | c :: r, acc, h => by
   have hc := h c (List.mem_cons_self ..);simp only [Lib.parseUint10];rw [if_pos hc]
   split
   ·exact .inr rfl
   ·split
    ·exact .inr rfl
    ·exact digits_parse r _ (fun x hx => h x (List.mem_cons_of_mem _ hx))
theorem digits_atoi {l : List UInt8} (h0 : l ≠ []) (h : ∀ c ∈ l, 48 <= c.toNat /\ c.toNat <= 57) : (∃ u : Int, 0 <= u /\ Lib.atoiAll l = .ok u) \/ Lib.atoiAll l = .range := by
 cases l with
 | nil => exact absurd rfl h0
 | cons c r =>
   have hc := h c (List.mem_cons_self ..);have n1 : ¬ (c.toNat = 43) := by omega
   have n2 : ¬ (c.toNat = 45) := by omega
   unfold Lib.atoiAll;simp only [n1, n2, or_self, if_false, not_false_eq_true, true_and, false_and];unfold Lib.parseMag;rw [if_neg (by simp)]
   rcases digits_parse (c :: r) 0 h with ⟨u, hu⟩ | hu
   ·rw [hu]
    dsimp only
    split
    ·exact .inr rfl
    ·exact .inl ⟨u, by omega, rfl⟩
   ·rw [hu];exact .inr rfl
theorem mem_bt {s : ByteArray} {c : UInt8} (h : c ∈ s.data.toList) : ∃ j, j < s.size /\ bt s j = (c.toNat : Int) := by
 obtain ⟨j, hj, rfl⟩ := List.mem_iff_getElem.1 h;have hj' : j < s.size := by rw [size_toL]; exact hj
 exact ⟨j, hj', by rw [bt_in hj']; rfl⟩
theorem span_atoi {s : ByteArray} {n : Nat} (hn : SpanIs digB s n) (h0 : 0 < n) : (∃ u : Int, 0 <= u /\ Lib.atoiAll (s.extract 0 n).data.toList = .ok u) \/ Lib.atoiAll (s.extract 0 n).data.toList = .range := by
 refine digits_atoi ?_ fun c hc => ?_
 ·intro e;have : (s.extract 0 n).size = 0 := by rw [size_toL, e]; rfl
  rw [ByteArray.size_extract] at this;have := hn.1;omega
 ·obtain ⟨j, hj, hb⟩ := mem_bt hc;rw [ByteArray.size_extract] at hj;have := hn.1;rw [bt_extract s 0 n j hn.1 (by omega)] at hb;have hd := hn.2.1 (0 + j) (by omega);rw [hb] at hd;have := of_decide_eq_true hd;omega
theorem reads_ok {s : ByteArray} {n : Nat} {u : Int} (h : Lib.atoiAll (s.extract 0 n).data.toList = .ok u) (hs : (s.extract 0 n).size <= 4000) : Reads s n u := fun w => by
 refine (sh_strconv_Atoi_ok (s.extract 0 n) (by omega) u h w).mono ?_;rintro e w' ⟨rfl, hw⟩;refine ⟨rfl, ?_⟩
 rcases hw with rfl | ⟨t, rfl⟩
 ·exact Below.refl _ _
 ·exact Lib.bytesWorld_below _ _ _
theorem number_err (s : ByteArray) (a : Int) (n : Nat) (w : World) (hn : SpanIs digB s n) (hs : s.size <= 4000) (h : Lib.atoiAll (s.extract 0 n).data.toList = .range) (hT : TabE w) :
 Calls Tryz.prog 160 #[.string s, .int .i64 a] w fun e w' => e = .panicked (gone 3 a) /\ Below w.heap.size w w' := by
 have HN := Hd hn;have hle := hn.1;have HT := Hd hT;have HE := Hd h;have HZ := Hd ((Below.refl w.heap.size w).alloc (Nat.le_refl _) (.cells #[.int .i64 0, .string ByteArray.empty, .int .i64 0, .bool false, .int .i64 0] 94));clear hn hT h
 go_enter Tryz.func160, Tryz.ntmps160
 go_wp2_with fail
 refine (digits_any s _).mono ?_;rintro e w1 ⟨m, rfl, h1, h2⟩;obtain rfl := h1.unique HN.out;have HB1 := Hd (HZ.out.trans (h2.mono HZ.out.size));clear h1 h2;have hle' : (m : Int) <= (s.size : Int) := by omega
 go_wp2_with fail
 obtain ⟨ev, hev, hk⟩ := HT.out.below HB1.out;refine (sh_strconv_Atoi_range (s.extract 0 m) (by rw [ByteArray.size_extract]; omega) HE.out ev _ hev hk).mono ?_;rintro e w2 ⟨N, rfl, _, _, h2⟩;have HB2 := Hd (HB1.out.trans (h2.mono HB1.out.size));clear h2 hev hk;go_wp2_with fail
 refine (giveUp_any _ _ _).mono ?_;rintro e w3 ⟨rfl, rfl⟩;go_wp2_with fail
 exact ⟨rfl, rfl, HB2.out⟩
theorem number_any (s : ByteArray) (a : Int) (w : World) (hs : s.size <= 4000) (h0 : 0 < spanN digB s) (ha : 0 <= a) (ha' : a <= 4000) (hT : TabE w) :
 Calls Tryz.prog 160 #[.string s, .int .i64 a] w fun e w' => e = outE s a (numO s (spanN digB s)) /\ Below w.heap.size w w' := by
 have hn := spanN_is digB s;generalize spanN digB s = n at *;have hsz : (s.extract 0 n).size <= 4000 := by rw [ByteArray.size_extract]; omega
 unfold numO
 rcases span_atoi hn h0 with ⟨u, hu0, hu⟩ | hu
 ·have hr := reads_ok hu hsz;rw [hu]
  dsimp only
  by_cases c1 : 10000000000 < u
  ·rw [if_pos c1]
   simpa [outE] using number_great s a n u w hn hr c1
  ·rw [if_neg c1]
   by_cases c2 : bt s 0 = 48 /\ 1 < n
   ·rw [if_pos c2]
    simpa [outE] using number_zero s a n u w hn hr (by omega) c2.1 c2.2
   ·rw [if_neg c2]
    by_cases z : bt s 0 = 48
    ·have hn1 : decide ((1 : Int) < (n : Int)) = false := dEf (by have : ¬ 1 < n := fun h => c2 ⟨z, h⟩; omega)
     by_cases c3 : bt s n ≠ 46
     ·rw [if_pos c3];exact number_wholeZ s a n u w hn hr hu0 (by omega) h0 z hn1 c3
     ·rw [if_neg c3];have hp : bt s n = 46 := by simpa using c3
      have hk := spanN_is digB (s.extract (n + 1) s.size);generalize spanN digB (s.extract (n + 1) s.size) = k at *
      by_cases c4 : k < 2
      ·rw [if_pos c4];exact number_shortZ s a n k u w hn hr hu0 (by omega) h0 z hn1 hp hk c4 ha (by omega)
      ·rw [if_neg c4]
       by_cases c5 : 100 * u + (10 * (bt s (n + 1) - 48) + (bt s (n + 2) - 48)) <= 1000000000000
       ·rw [if_pos c5];exact number_pointZ s a n k u w hn hr hu0 (by omega) h0 z hn1 hp hk (by omega) ha (by omega) c5
       ·exfalso
        have hn1' : n = 1 := by have : ¬ 1 < n := fun h => c2 ⟨z, h⟩; omega
        subst hn1';have hu1 : u = 0 := by
         have e1 : (s.extract 0 1).data.toList.length = 1 := by rw [<- size_toL, ByteArray.size_extract]; have := hn.1; omega
         have hx : ∀ c ∈ (s.extract 0 1).data.toList, (c.toNat : Int) = 48 := fun c hc => by
          obtain ⟨j, hj, hb⟩ := mem_bt hc;rw [size_toL, e1] at hj;obtain rfl : j = 0 := by omega
          rw [bt_extract s 0 1 0 hn.1 (by omega)] at hb;rw [<- hb];exact z
         generalize (s.extract 0 1).data.toList = L at *
         match L, e1 with
         | [c], _ =>
           have hc := hx c (List.mem_cons_self ..)
           have : c = 48 := UInt8.toNat_inj.1 (by have : c.toNat = 48 := by omega
                                                  rw [this]; rfl)
           subst this;have h2 : Lib.atoiAll [48] = .ok 0 := by decide
           rw [h2] at hu;injection hu with hu
           omega
        have d1 := of_decide_eq_true (hk.2.1 0 (by omega));have d2 := of_decide_eq_true (hk.2.1 1 (by omega));rw [bt_suffix] at d1 d2;simp only [Nat.add_zero] at d1;have e2 : 1 + 1 + 1 = 1 + 2 := rfl;rw [e2] at d2;omega
    ·by_cases c3 : bt s n ≠ 46
     ·rw [if_pos c3];exact number_whole s a n u w hn hr hu0 (by omega) h0 z c3
     ·rw [if_neg c3];have hp : bt s n = 46 := by simpa using c3
      have hk := spanN_is digB (s.extract (n + 1) s.size);generalize spanN digB (s.extract (n + 1) s.size) = k at *
      by_cases c4 : k < 2
      ·rw [if_pos c4];exact number_short s a n k u w hn hr hu0 (by omega) h0 z hp hk c4 ha (by omega)
      ·rw [if_neg c4]
       by_cases c5 : 100 * u + (10 * (bt s (n + 1) - 48) + (bt s (n + 2) - 48)) <= 1000000000000
       ·rw [if_pos c5];exact number_point s a n k u w hn hr hu0 (by omega) h0 z hp hk (by omega) ha (by omega) c5
       ·rw [if_neg c5]
        simpa [outE] using number_over s a n k u w hn hr hu0 (by omega) h0 z hp hk (by omega) ha (by omega) (by omega)
 ·rw [hu]
  simpa [outE] using number_err s a n w hn hs hu hT
theorem first_any (s : ByteArray) (a : Int) (w : World) (h0 : 0 < s.size) (hs : s.size <= 4000) (ha : 0 <= a) (ha' : a <= 4000) (hT : TabE w) :
 Calls Tryz.prog 121 #[.string s, .int .i64 a] w fun e w' => e = outE s a (firstO s) /\ Below w.heap.size w w' := by
 have HT := Hd hT;have HZ := Hd ((Below.refl w.heap.size w).alloc (Nat.le_refl _) (.cells #[.int .i64 0, .string ByteArray.empty, .int .i64 0, .bool false, .int .i64 0] 94));have HX := Hd (TBox.made w 94 0 ByteArray.empty 0 false 0);clear hT
 go_enter Tryz.func121, Tryz.ntmps121
 go_wp2_with fail
 refine (letters_any s _).mono ?_;rintro e w1 ⟨m, rfl, h1, h2⟩;obtain rfl := spanN_eq h1;have HB1 := Hd (HZ.out.trans (h2.mono HZ.out.size));have HX1 := Hd (HX.out.below h2);clear h1 h2
 by_cases hl : 0 < spanN letB s
 ·have HO : Hid (firstO s = wordO s (spanN letB s)) := by unfold Hid firstO; rw [if_pos hl]
  have hl' : (0 : Int) < (spanN letB s : Int) := by omega
  go_wp2_with fail
  refine (word_any s a _).mono ?_;rintro e w2 ⟨rfl, h2⟩;have HB2 := Hd (HB1.out.trans (h2.mono HB1.out.size));have HX2 := Hd (HX1.out.below h2);clear h2
  cases ho : wordO s (spanN letB s) with
  | tok k n v p =>
    simp only [outE];obtain ⟨⟨c0, c1, c2, c3, c4⟩, z0, z1, z2, z3, z4⟩ := HX2.out;unfold tokV;go_wp2_with fail
    refine bodyPost_ret (v := tokV k (s.extract 0 n) v p a) ?_ rfl ⟨by rw [HO.out, ho]; rfl, ?_⟩
    ·obtain ⟨⟨e0, e1, e2, e3, e4⟩, -⟩ := HX2.out.put k (s.extract 0 n) v p a;unfold tput at e0 e1 e2 e3 e4;simp [results, Tryz.results121, go_sem, e0, e1, e2, e3, e4, tokV]
    ·exact ((((HB2.out.setCell (by simp) _).setCell (by simp) _).setCell (by simp) _).setCell (by simp) _).setCell (by simp) _
  | bad e' o =>
    simp only [outE];go_wp2_with fail
    exact ⟨rfl, by rw [HO.out, ho]; rfl, HB2.out⟩
 ·have hl' : decide ((0 : Int) < (spanN letB s : Int)) = false := dEf (by omega);go_wp2_with fail
  refine (digits_any s _).mono ?_;rintro e w1' ⟨m, rfl, h1, h2⟩;obtain rfl := spanN_eq h1;have HB1' := Hd (HB1.out.trans (h2.mono HB1.out.size));have HX1' := Hd (HX1.out.below h2);clear h1 h2 HB1 HX1;have HB1 := HB1';have HX1 := HX1';clear HB1' HX1'
  by_cases hd : 0 < spanN digB s
  ·have HO : Hid (firstO s = numO s (spanN digB s)) := by unfold Hid firstO; rw [if_neg hl, if_pos hd]
   have hd' : (0 : Int) < (spanN digB s : Int) := by omega
   go_wp2_with fail
   refine (number_any s a _ hs hd ha ha' (HT.out.below HB1.out)).mono ?_;rintro e w2 ⟨rfl, h2⟩;have HB2 := Hd (HB1.out.trans (h2.mono HB1.out.size));have HX2 := Hd (HX1.out.below h2);clear h2
   cases ho : numO s (spanN digB s) with
   | tok k n v p =>
     simp only [outE];obtain ⟨⟨c0, c1, c2, c3, c4⟩, z0, z1, z2, z3, z4⟩ := HX2.out;unfold tokV;go_wp2_with fail
     refine bodyPost_ret (v := tokV k (s.extract 0 n) v p a) ?_ rfl ⟨by rw [HO.out, ho]; rfl, ?_⟩
     ·obtain ⟨⟨e0, e1, e2, e3, e4⟩, -⟩ := HX2.out.put k (s.extract 0 n) v p a;unfold tput at e0 e1 e2 e3 e4;simp [results, Tryz.results121, go_sem, e0, e1, e2, e3, e4, tokV]
     ·exact ((((HB2.out.setCell (by simp) _).setCell (by simp) _).setCell (by simp) _).setCell (by simp) _).setCell (by simp) _
   | bad e' o =>
     simp only [outE];go_wp2_with fail
     exact ⟨rfl, by rw [HO.out, ho]; rfl, HB2.out⟩
  ·have HO : Hid (firstO s = signO s) := by unfold Hid firstO; rw [if_neg hl, if_neg hd]
   have hd' : decide ((0 : Int) < (spanN digB s : Int)) = false := dEf (by omega);go_wp2_with fail
   refine (sign_any s a _ h0).mono ?_;rintro e w2 ⟨rfl, h2⟩;have HB2 := Hd (HB1.out.trans (h2.mono HB1.out.size));have HX2 := Hd (HX1.out.below h2);clear h2
   cases ho : signO s with
   | tok k n v p =>
     simp only [outE];obtain ⟨⟨c0, c1, c2, c3, c4⟩, z0, z1, z2, z3, z4⟩ := HX2.out;unfold tokV;go_wp2_with fail
     refine bodyPost_ret (v := tokV k (s.extract 0 n) v p a) ?_ rfl ⟨by rw [HO.out, ho]; rfl, ?_⟩
     ·obtain ⟨⟨e0, e1, e2, e3, e4⟩, -⟩ := HX2.out.put k (s.extract 0 n) v p a;unfold tput at e0 e1 e2 e3 e4;simp [results, Tryz.results121, go_sem, e0, e1, e2, e3, e4, tokV]
     ·exact ((((HB2.out.setCell (by simp) _).setCell (by simp) _).setCell (by simp) _).setCell (by simp) _).setCell (by simp) _
   | bad e' o =>
     simp only [outE];go_wp2_with fail
     exact ⟨rfl, by rw [HO.out, ho]; rfl, HB2.out⟩
structure Tk where
 k : Int
 txt : ByteArray
 num : Int
 pt : Bool
 pos : Int
def tkth (l : List Tk) (j : Nat) : Tk := l.getD j ⟨0, ByteArray.empty, 0, false, 0⟩
def tkV (r : Tk) : List Value := [.int .i64 r.k, .string r.txt, .int .i64 r.num, .bool r.pt, .int .i64 r.pos]
def cellsT : List Tk -> List Value
 | [] => []
 | r :: l => tkV r ++ cellsT l
theorem cellsT_length : ∀ l : List Tk, (cellsT l).length = l.length * 5
 | [] => rfl
 | r :: l => by
   rw [cellsT, List.length_append, cellsT_length l, List.length_cons];simp [tkV];omega
theorem cellsT_append : ∀ l m : List Tk, cellsT (l ++ m) = cellsT l ++ cellsT m
 | [], _ => rfl
 | r :: l, m => by rw [List.cons_append, cellsT, cellsT, cellsT_append l m, List.append_assoc]
theorem tkth_cons (r : Tk) (l : List Tk) (k : Nat) : tkth (r :: l) (k + 1) = tkth l k := rfl
theorem tkth_zero (r : Tk) (l : List Tk) : tkth (r :: l) 0 = r := rfl
theorem cellsT_get : ∀ (l : List Tk) (k c : Nat), k < l.length -> c < 5 -> (cellsT l)[k * 5 + c]? = (tkV (tkth l k))[c]?
 | [], k, c, hk, _ => absurd hk (by simp)
 | r :: l, 0, c, _, hc => by
   rw [cellsT, tkth_zero, List.getElem?_append_left (by simp [tkV]; omega), Nat.zero_mul, Nat.zero_add]
 | r :: l, k + 1, c, hk, hc => by
   rw [cellsT, tkth_cons, List.getElem?_append_right (by simp [tkV]; omega), <- cellsT_get l k c (by simpa using hk) hc]
   congr 1
   simp [tkV];omega
theorem cellsT_one_cell : ∀ (l : List Tk) (u : Value), u ∈ cellsT l -> u.oneCell' = true
 | [], u, h => by simp [cellsT] at h
 | r :: l, u, h => by
   rw [cellsT, List.mem_append] at h
   rcases h with h | h
   ·simp only [tkV, List.mem_cons, List.not_mem_nil, or_false] at h
    rcases h with rfl | rfl | rfl | rfl | rfl <;> rfl
   ·exact cellsT_one_cell l u h
def TkIs (w : World) (b o : Nat) (r : Tk) : Prop := w.cell? ⟨b, o, none⟩ = some (.int .i64 r.k) /\ w.cell? ⟨b, o + 1, none⟩ = some (.string r.txt) /\ w.cell? ⟨b, o + 2, none⟩ = some (.int .i64 r.num) /\ w.cell? ⟨b, o + 3, none⟩ = some (.bool r.pt) /\ w.cell? ⟨b, o + 4, none⟩ = some (.int .i64 r.pos)
def TAt (w : World) (b : Nat) (l : List Tk) : Prop := b < w.heap.size /\ ∀ j, j < l.length -> TkIs w b (j * 5) (tkth l j)
theorem TkIs.below {B : Nat} {w w' : World} {b o : Nat} {r : Tk} (h : TkIs w b o r) (hb : Below B w w') (hB : b < B) : TkIs w' b o r :=
 ⟨(hb.cell (p := ⟨b, o, none⟩) hB).trans h.1, (hb.cell (p := ⟨b, o + 1, none⟩) hB).trans h.2.1, (hb.cell (p := ⟨b, o + 2, none⟩) hB).trans h.2.2.1, (hb.cell (p := ⟨b, o + 3, none⟩) hB).trans h.2.2.2.1, (hb.cell (p := ⟨b, o + 4, none⟩) hB).trans h.2.2.2.2⟩
theorem TAt.below {B : Nat} {w w' : World} {b : Nat} {l : List Tk} (h : TAt w b l) (hb : Below B w w') (hB : b < B) : TAt w' b l :=
 ⟨Nat.lt_of_lt_of_le h.1 hb.size, fun j hj => (h.2 j hj).below hb hB⟩
theorem tok_info : (Tryz.prog.info? 94).map (fun i => (i.zero, i.size, i.bytes)) = some (some (.agg #[.int .i64 0, .string ByteArray.empty, .int .i64 0, .bool false, .int .i64 0]), 5, 48) := by kernel_rfl
def GrowT (w : World) (B : Nat) (v : Value) (l : List Tk) : Prop := w.ownsRow B 94 5 v l.length (cellsT l)
theorem GrowT.nil (w : World) (B : Nat) : GrowT w B (.slice none 0 0) [] := World.ownsRow_nil _ _ _ _
theorem GrowT.alloc {w : World} {B : Nat} {v : Value} {l : List Tk} (h : GrowT w B v l) (o : Obj) : GrowT (w.alloc o) B v l := World.ownsRow.alloc h o
theorem GrowT.lt {w : World} {B : Nat} {v : Value} {l : List Tk} (h : GrowT w B v l) : ∀ k, v.ownBlock = some k -> B <= k /\ k < w.heap.size := World.ownsRow.lt h
theorem GrowT.put {w : World} {B : Nat} {v : Value} {l : List Tk} (h : GrowT w B v l) {a : Addr} (ha : a.block < B) (u : Value) : GrowT (w.setCell a u) B v l := ownsRow_setCell_below h ha u
theorem GrowT.below {w w' : World} {B : Nat} {v : Value} {l : List Tk} (h : GrowT w B v l) (hb : Below w.heap.size w w') : GrowT w' B v l := by
 refine World.ownsRow.kept (row := none) h ⟨hb.os, hb.tape, hb.output, hb.size, fun k hk _ => hb.block k hk⟩ ?_
 cases v.ownBlock with
 | none => exact .inl rfl
 | some k => exact .inr (Option.some_ne_none k)
theorem GrowT.form {w : World} {B : Nat} {v : Value} {l : List Tk} (h : GrowT w B v l) : (v = .slice none 0 0 /\ l = []) \/ ∃ g c, v = .slice (some ⟨g, 0, none⟩) l.length c /\ B <= g /\ TAt w g l := by
 have hh := h
 rcases h.2 with ⟨h1, h2⟩ | ⟨g, c, cur, h1, h2, _⟩
 ·exact .inl ⟨h1, List.eq_nil_of_length_eq_zero h2⟩
 ·subst h1;refine .inr ⟨g, c, rfl, h2, (GrowT.lt hh g rfl).2, fun j hj => ?_⟩;have key : ∀ c, c < 5 -> ∀ u, (tkV (tkth l j))[c]? = some u -> w.cell? ⟨g, j * 5 + c, none⟩ = some u := fun c hc u hu => by
   have := World.ownsRow.cells hh (g := g) rfl (j * 5 + c) u ((cellsT_get l j c hj hc).trans hu)
   rwa [Addr.add_lit, Nat.zero_add] at this
  exact ⟨key 0 (by omega) _ rfl, key 1 (by omega) _ rfl, key 2 (by omega) _ rfl, key 3 (by omega) _ rfl, key 4 (by omega) _ rfl⟩
theorem run_app_tok (w : World) (ty : TypeId) (B : Nat) (v : Value) (l : List Tk) (hown : GrowT w B v l) (g c : Nat) (r : Tk) (hsrc : TkIs w g 0 r) (hb : (l.length + 1) * 48 <= 140737488355328) (hB : B <= w.heap.size) :
 ∃ v' w', (Builtin.append_ #[90, 90] ty #[v, .slice (some ⟨g, 0, none⟩) 1 c]).run Tryz.prog w = .ok v' w' /\ GrowT w' B v' (l ++ [r]) /\ w.grownBy w' v.ownBlock := by
 obtain ⟨i0, hi, hz0, hz1, hz2⟩ := info_parts tok_info;have hnews : ∀ j u, (cellsT [r])[j]? = some u -> w.cell? ((⟨g, 0, none⟩ : Addr).add j) = some u := by
  intro j u hu;rw [Addr.add_lit, Nat.zero_add];have e : cellsT [r] = tkV r := by simp [cellsT]
  rw [e] at hu;obtain ⟨h0, h1, h2, h3, h4⟩ := hsrc;have hj : j < 5 := by
   by_cases h' : j < 5
   ·exact h'
   ·rw [List.getElem?_eq_none (by simp [tkV]; omega)] at hu; cases hu
  have hc : j = 0 \/ j = 1 \/ j = 2 \/ j = 3 \/ j = 4 := by omega
  rcases hc with rfl | rfl | rfl | rfl | rfl <;> simp only [tkV, List.getElem?_cons_zero, List.getElem?_cons_succ, Option.some.injEq] at hu <;> subst hu
  ·exact h0
  ·exact h1
  ·exact h2
  ·exact h3
  ·exact h4
 obtain ⟨v', w', h1, h2, h3, _, h5⟩ := run_append_own_at (P := Tryz.prog) w B 90 ty 94 i0 _ 5 48 Tryz.underlying90 hi hz0 hz1 hz2 rfl (by decide) v l.length (cellsT l) hown ⟨g, 0, none⟩ 1 c (cellsT [r]) (by rw [cellsT_length]; rfl) hnews (cellsT_one_cell [r]) (by unfold maxLen; omega) hb hB;refine ⟨v', w', h1, ?_, h3⟩;unfold GrowT;rw [List.length_append, cellsT_append];exact h2
theorem wpList_app_tok {ops : Array Oper} {rest : List Oper} {o : Oper} {a : Act} {Q : Exit -> Act -> World -> Prop} (w : World) (hgd : o.guard = none) (s x : Operand)
 (ho : o.op = .call { callee := .builtin .append, args := #[s, x], argTypes := #[90, 90] })
 (B : Nat) (v : Value) (l : List Tk) (hs : a.eval s = v) (hown : GrowT w B v l) (g c : Nat) (r : Tk) (hx : a.eval x = .slice (some ⟨g, 0, none⟩) 1 c) (hsrc : TkIs w g 0 r)
 (hb : (l.length + 1) * 48 <= 140737488355328) (hB : B <= w.heap.size)
 (h : ∀ v' w', GrowT w' B v' (l ++ [r]) -> Below B w w' -> w.grownBy w' v.ownBlock -> wpList Tryz.prog ops Q rest (a.put o.dst v') w') :
 wpList Tryz.prog ops Q (o :: rest) a w := by
 obtain ⟨v', w', hr, h2, h3⟩ := run_app_tok w o.type B v l hown g c r hsrc hb hB;refine wpList_plain hgd fun _ hK => ?_
 unfold Oper.wp execOp;simp only [ho, resolve, invoke, builtin, Sem.run_bind, Sem.run_pure, Result.andThen_ok, List.map_toArray, List.map_cons, List.map_nil, hs, hx, hr];exact hK _ _ (h v' w' h2 ((Below.refl B w).grown h3 hB fun k hk => (GrowT.lt hown k hk).1) h3)
theorem SpanAt.from {P : Int -> Bool} {s : ByteArray} {a i k : Nat} (ha : a <= s.size) (h : SpanAt P (s.extract a s.size) i k) : SpanAt P s (a + i) k := by
 obtain ⟨h1, h2, h3⟩ := h;rw [ByteArray.size_extract] at h1 h3;refine ⟨by omega, fun j hj => ?_, fun hj => ?_⟩
 ·rw [Nat.add_assoc, <- bt_suffix]; exact h2 j hj
 ·rw [Nat.add_assoc, <- bt_suffix]; exact h3 (by omega)
theorem GapAt.from {s : ByteArray} {a i m : Nat} (ha : a <= s.size) (h : GapAt (s.extract a s.size) i m) : GapAt s (a + i) (a + m) := by
 induction h with
 | stop i k h hn =>
   rw [<- Nat.add_assoc];exact .stop (a + i) k (h.from ha) (by rw [Nat.add_assoc, <- bt_suffix]; exact hn)
 | more i k m n h hn hm hr ih =>
   refine .more (a + i) k m (a + n) (h.from ha) (by rw [Nat.add_assoc, <- bt_suffix]; exact hn) ?_ ?_
   ·rw [Nat.add_assoc]; exact hm.from ha
   ·have e : a + i + k + m = a + (i + k + m) := by omega
    rw [e]; exact ih
theorem first_len {s : ByteArray} (h0 : 0 < s.size) {k : Int} {n : Nat} {v : Int} {p : Bool} (h : firstO s = .tok k n v p) : 1 <= n /\ n <= s.size := by
 unfold firstO at h
 split at h
 ·rename_i hl
  have hs := (spanN_is letB s).1;unfold wordO at h
  split at h
  ·cases h
  ·split at h <;> (injection h with _ e; omega)
 ·split at h
  ·rename_i hd
   have hs := (spanN_is digB s).1;unfold numO at h
   split at h
   ·split at h
    ·cases h
    ·split at h
     ·cases h
     ·split at h
      ·injection h with _ e; omega
      ·rename_i hp
       split at h
       ·cases h
       ·rename_i hk
        split at h
        ·injection h with _ e
         have hk' := (spanN_is digB (s.extract (spanN digB s + 1) s.size)).1;rw [ByteArray.size_extract] at hk';omega
        ·cases h
   ·cases h
  ·unfold signO at h
   split at h
   ·rename_i hl
    have := long_size hl;injection h with _ e
    omega
   ·split at h
    ·injection h with _ e
     omega
    ·cases h
inductive Toks (s : ByteArray) : Nat -> List Tk -> Prop
 | start (a : Nat) (h : GapAt s 0 a) (ha : a <= s.size) : Toks s a []
 | step (a : Nat) (L : List Tk) (k : Int) (n : Nat) (v : Int) (p : Bool) (m : Nat) (h : Toks s a L) (ha : a < s.size) (hf : firstO (s.extract a s.size) = .tok k n v p) (hm : GapAt (s.extract (a + n) s.size) 0 m) (hms : a + n + m <= s.size) : Toks s (a + n + m) (L ++ [⟨k, (s.extract a s.size).extract 0 n, v, p, a⟩])
theorem Toks.le {s : ByteArray} {a : Nat} {L : List Tk} (h : Toks s a L) : a <= s.size := by
 cases h with
 | start _ _ ha => exact ha
 | step _ _ _ _ _ _ _ _ _ _ _ hms => exact hms
theorem Toks.len {s : ByteArray} {a : Nat} {L : List Tk} (h : Toks s a L) : L.length <= a := by
 induction h with
 | start _ _ _ => exact Nat.zero_le _
 | step a L k n v p m h ha hf hm hms ih =>
   have := first_len (s := s.extract a s.size) (by rw [ByteArray.size_extract]; omega) hf;rw [List.length_append];simp;omega
def SplitIs (w' : World) (B : Nat) (s : ByteArray) (v : Value) (e at' : Int) : Prop :=
 (∃ L, Toks s s.size L /\ GrowT w' B v L /\ e = 0 /\ at' = 0) \/ (∃ a L o, Toks s a L /\ a < s.size /\ firstO (s.extract a s.size) = .bad e o /\ v = .slice none 0 0 /\ at' = ((a + o : Nat) : Int))
def PBox (w : World) (p : Nat) (v : Value) : Prop := (w.cell? ⟨p, 0, none⟩ = some v /\ w.frozen? ⟨p, 0, none⟩ = false) /\ (w.cell? ⟨p + 1, 0, none⟩ = some (.int .i64 0) /\ w.frozen? ⟨p + 1, 0, none⟩ = false) /\ (w.cell? ⟨p + 1, 1, none⟩ = some (.int .i64 0) /\ w.frozen? ⟨p + 1, 1, none⟩ = false)
theorem PBox.made (w : World) (T U : TypeId) : PBox ((w.alloc (.cells #[.slice none 0 0] T)).alloc (.cells #[.int .i64 0, .int .i64 0] U)) w.heap.size (.slice none 0 0) := by
 refine ⟨⟨?_, ?_⟩, ⟨?_, ?_⟩, ⟨?_, ?_⟩⟩ <;> simp
theorem PBox.keep {w w' : World} {p : Nat} {v : Value} {B : Nat} (h : PBox w p v) (hb : Below B w w') (hB : p + 1 < B) : PBox w' p v := by
 have hp : p < B := by omega
 obtain ⟨⟨a0, a1⟩, ⟨b0, b1⟩, ⟨c0, c1⟩⟩ := h;exact ⟨⟨(hb.cell (p := ⟨p, 0, none⟩) hp).trans a0, (hb.frozen (p := ⟨p, 0, none⟩) hp).trans a1⟩, ⟨(hb.cell (p := ⟨p + 1, 0, none⟩) hB).trans b0, (hb.frozen (p := ⟨p + 1, 0, none⟩) hB).trans b1⟩, ⟨(hb.cell (p := ⟨p + 1, 1, none⟩) hB).trans c0, (hb.frozen (p := ⟨p + 1, 1, none⟩) hB).trans c1⟩⟩
theorem GrowT.slice {w : World} {B : Nat} {v : Value} {l : List Tk} (h : GrowT w B v l) : ∃ x c, v = .slice x l.length c := by
 rcases h.form with ⟨h1, h2⟩ | ⟨g, c, h1, _⟩
 ·subst h2; exact ⟨none, 0, h1⟩
 ·exact ⟨_, c, h1⟩
theorem PBox.put {w : World} {p : Nat} {v : Value} (h : PBox w p v) (u : Value) : PBox (w.setCell ⟨p, 0, none⟩ u) p u := by
 obtain ⟨⟨a0, a1⟩, ⟨b0, b1⟩, ⟨c0, c1⟩⟩ := h;have n0 : (⟨p, 0, none⟩ : Addr) ≠ ⟨p + 1, 0, none⟩ := fun e => by injection e; omega
 have n1 : (⟨p, 0, none⟩ : Addr) ≠ ⟨p + 1, 1, none⟩ := fun e => by injection e; omega
 refine ⟨⟨World.cell?_setCell_same _ _ _ a0, by rw [World.frozen?_setCell]; exact a1⟩, ⟨?_, by rw [World.frozen?_setCell]; exact b1⟩, ⟨?_, by rw [World.frozen?_setCell]; exact c1⟩⟩
 ·rw [World.cell?_setCell_other (h := n0)]; exact b0
 ·rw [World.cell?_setCell_other (h := n1)]; exact c0
theorem split_any (s : ByteArray) (w : World) (hs : s.size <= 4000) (hT : TabE w) :
 Calls Tryz.prog 83 #[.string s] w fun e w' => ∃ v er at', e = .returned (.tuple #[v, .agg #[.int .i64 er, .int .i64 at']]) /\ SplitIs w' (w.heap.size + 2) s v er at' /\ Below w.heap.size w w' := by
 have HT := Hd hT;have HP0 := Hd (PBox.made w 90 42);have HB0 := Hd (((Below.refl w.heap.size w).alloc (Nat.le_refl _) (.cells #[.slice none 0 0] 90)).alloc (by simp) (.cells #[.int .i64 0, .int .i64 0] 42));clear hT;have hmf : ∀ (fn : Fn) (first cap : Array Value) (w : World), (Instr.makeFunc fn first cap).run Tryz.prog w = .ok (.func fn first cap) w := fun _ _ _ _ => rfl
 go_enter_defers Tryz.func83, Tryz.ntmps83
 go_wp2_with fail
 refine (gap_any s _ (by omega)).mono ?_;rintro e w1 ⟨a0, rfl, hg, ha, hb⟩;have HP1 := Hd (HP0.out.keep hb (by simp));have HB1 := Hd (HB0.out.trans (hb.mono HB0.out.size));have hsz1 : w.heap.size + 2 <= w1.heap.size := by have := hb.size; simp at this; omega
 have HG0 := Hd hg;clear hb hg HP0 HB0;go_wp2_with fail
 go_loopw [4] (fun i wr => ∃ (a : Nat) (L : List Tk) (v : Value), i = .int .i64 a /\ Toks s a L /\ PBox wr w.heap.size v /\ GrowT wr (w.heap.size + 2) v L /\ Below w.heap.size w wr /\ w.heap.size + 2 <= wr.heap.size) (fun i _ => s.size - (intOf i).toNat)
 case atStart => exact ⟨a0, [], _, rfl, .start a0 HG0.out ha, HP1.out, GrowT.nil _ _, HB1.out, hsz1⟩
 case round =>
  obtain ⟨a, L, v, rfl, hTk, hP, hG, hb, hsz⟩ := hrel;obtain ⟨x, c, rfl⟩ := hG.slice;have hle := hTk.le;have hlen := hTk.len;have HTk := Hd hTk;have HP := Hd hP;have HG := Hd hG;have HB := Hd hb;clear hTk hP hG hb
  by_cases hlt : a < s.size
  ·have hlt' : (a : Int) < (s.size : Int) := by omega
   have hle' : (a : Int) <= (s.size : Int) := by omega
   go_wp2_with fail
   refine (first_any (s.extract a s.size) a _ (by rw [ByteArray.size_extract]; omega) (by rw [ByteArray.size_extract]; omega) (by omega) (by omega) (HT.out.below HB.out)).mono ?_;rintro e w2 ⟨rfl, hb2⟩;have HP2 := Hd (HP.out.keep hb2 (by omega));have HG2 := Hd (HG.out.below hb2);have HB2 := Hd (HB.out.trans (hb2.mono HB.out.size));have hsz2 : w.heap.size + 2 <= w2.heap.size := by have := hb2.size; omega
   clear hb2 HP HG;obtain ⟨⟨x0, x1⟩, ⟨y0, y1⟩, ⟨z0, z1⟩⟩ := HP2.out
   cases ho : firstO (s.extract a s.size) with
   | tok k n v' p =>
     simp only [outE];unfold tokV;have hfl := first_len (s := s.extract a s.size) (by rw [ByteArray.size_extract]; omega) ho;rw [ByteArray.size_extract] at hfl;have hown := HG2.out.lt;have hx1 : (((s.extract a s.size).extract 0 n).size : Int) = (n : Int) := by rw [ByteArray.size_extract, ByteArray.size_extract]; omega
     have hx2 : ((s.extract a s.size).extract 0 n).size = n := by omega
     generalize htx : (s.extract a s.size).extract 0 n = tx at *;have hlt2 : w.heap.size < w2.heap.size := by omega
     go_wp2_with (at_builtin; refine wpList_app_tok _ rfl _ _ rfl (w.heap.size + 2) _ L rfl ?hgw (w2.heap.size + 1) 1 ⟨k, tx, v', p, a⟩ rfl ?hcm ?hbd ?hB ?_; rotate_right; intro v9 w9 hg9 hb9 hgr9; refine Hid.out ?_)
     case hgw => exact (HG2.out.alloc _).alloc _
     case hcm => refine ⟨?_, ?_, ?_, ?_, ?_⟩ <;> simp
     case hbd => omega
     case hB => simp; omega
     obtain ⟨x9, c9, rfl⟩ := hg9.slice;have HP9 := Hd (PBox.keep (((HP2.out.keep ((Below.refl _ _).alloc (Nat.le_refl _) _) (by omega)).keep ((Below.refl _ _).alloc (Nat.le_refl _) _) (by simp; omega))) hb9 (by omega));have HG9 := Hd hg9;have HB9 := Hd (((HB2.out.alloc HB2.out.size _).alloc (by have := HB2.out.size; simp; omega) _).trans (hb9.mono (by omega)));have x5 : w9.cell? ⟨w2.heap.size, 1, none⟩ = some (.string tx) := hgr9.cell (by simp) (fun e => by have := hown w2.heap.size e.symm; omega);have hsz9 : w2.heap.size + 2 <= w9.heap.size := by have := hgr9.size; simp at this; omega
     obtain ⟨⟨p0, p1⟩, -, -⟩ := HP9.out;have hne : w.heap.size ≠ w2.heap.size := by omega
     clear hg9 hb9 hgr9 x0 x1 y0 y1 z0 z1;refine Hd ?_;have htn : ((a : Int) + (n : Int)).toNat = a + n := by omega
     have hle2 : (a : Int) + (n : Int) <= (s.size : Int) := by omega
     go_wp2_with fail
     have hlL : (L ++ [(⟨k, tx, v', p, a⟩ : Tk)]).length = L.length + 1 := by simp
     have HPa := Hd (HP9.out.put (.slice x9 (L.length + 1) c9));have HGa := Hd (HG9.out.put (a := ⟨w.heap.size, 0, none⟩) (by simp) (.slice x9 (L.length + 1) c9));have HBa := Hd (HB9.out.setCell (p := ⟨w.heap.size, 0, none⟩) (by simp) (.slice x9 (L.length + 1) c9));have hsza : w.heap.size + 2 <= (w9.setCell ⟨w.heap.size, 0, none⟩ (.slice x9 (L.length + 1) c9)).heap.size := by simp; omega
     rw [hlL] at HGa;refine (gap_any (s.extract (a + n) s.size) _ (by rw [ByteArray.size_extract]; omega)).mono ?_;rintro e w10 ⟨m, rfl, hm, hms, hb10⟩;rw [ByteArray.size_extract] at hms;have HPb := Hd (HPa.out.keep hb10 (by omega));have HGb := Hd (HGa.out.below hb10);have HBb := Hd (HBa.out.trans (hb10.mono HBa.out.size));have hszb : w.heap.size + 2 <= w10.heap.size := by have := hb10.size; omega
     have HS := Hd (Toks.step a L k n v' p m HTk.out hlt ho hm (by omega));rw [htx] at HS;clear hb10 hm HPa HGa HBa HP9 HG9 HB9 p0 p1 x5;go_wp2_with fail
     go_roundw
     case rel => exact ⟨a + n + m, _, _, by go_num, HS.out, HPb.out, HGb.out, HBb.out, hszb⟩
     case measure => simp [intOf]; omega
   | bad e o =>
     simp only [outE];have HF := Hd ho;go_wp2_with fail
     refine leaves_cons (f := 119) (args := #[.pointer (some ⟨w.heap.size, 0, none⟩), .pointer (some ⟨w.heap.size + 1, 0, none⟩)]) (by simp) (by simp [go_sem]) ?_;refine (catch_gone w.heap.size (w.heap.size + 1) e (a + o) w2 _ x0 x1 y0 z0 y1 z1 (by omega)).mono ?_;rintro e1 u' w'' ⟨rfl, rfl, rfl⟩;have e0 : (((w2.setCell ⟨w.heap.size, 0, none⟩ (.slice none 0 0)).setCell ⟨w.heap.size + 1, 0, none⟩ (.int .i64 e)).setCell ⟨w.heap.size + 1, 1, none⟩ (.int .i64 (a + o))).cell? ⟨w.heap.size, 0, none⟩ = some (.slice none 0 0) := by
      rw [World.cell?_setCell_other (h := fun e => by injection e; omega), World.cell?_setCell_other (h := fun e => by injection e; omega)];exact World.cell?_setCell_same _ _ _ x0
     have e1 : (((w2.setCell ⟨w.heap.size, 0, none⟩ (.slice none 0 0)).setCell ⟨w.heap.size + 1, 0, none⟩ (.int .i64 e)).setCell ⟨w.heap.size + 1, 1, none⟩ (.int .i64 (a + o))).cell? ⟨w.heap.size + 1, 0, none⟩ = some (.int .i64 e) := by
      rw [World.cell?_setCell_other (h := fun e => by injection e; omega)];exact World.cell?_setCell_same _ _ _ ((World.cell?_setCell_other _ _ _ _ (fun e => by injection e; omega)).trans y0)
     have e2 : (((w2.setCell ⟨w.heap.size, 0, none⟩ (.slice none 0 0)).setCell ⟨w.heap.size + 1, 0, none⟩ (.int .i64 e)).setCell ⟨w.heap.size + 1, 1, none⟩ (.int .i64 (a + o))).cell? ⟨w.heap.size + 1, 1, none⟩ = some (.int .i64 (a + o)) := by
      refine World.cell?_setCell_same _ _ _ ((World.cell?_setCell_other _ _ _ _ (fun e => by injection e; omega)).trans ((World.cell?_setCell_other _ _ _ _ (fun e => by injection e; omega)).trans z0))
     simp [Leaves, settle, results, Tryz.results83, go_sem, e0, e1, e2];exact ⟨_, _, _, ⟨rfl, rfl, rfl⟩, .inr ⟨a, L, o, HTk.out, hlt, HF.out, rfl, by omega⟩, (((HB2.out.setCell (by simp) _).setCell (by simp) _).setCell (by simp) _).drew⟩
  ·obtain rfl : a = s.size := by omega
   have hltB : decide ((s.size : Int) < (s.size : Int)) = false := dEf (by omega);obtain ⟨⟨x0, x1⟩, ⟨y0, y1⟩, ⟨z0, z1⟩⟩ := HP.out;go_wp2_with fail
   go_region
   go_wp2_with fail
   refine leaves_cons (f := 119) (args := #[.pointer (some ⟨w.heap.size, 0, none⟩), .pointer (some ⟨w.heap.size + 1, 0, none⟩)]) (by simp) (by simp [go_sem]) ?_;refine (catch_idle ⟨w.heap.size, 0, none⟩ ⟨w.heap.size + 1, 0, none⟩ _).mono ?_;rintro e1 u' w'' ⟨rfl, rfl, rfl⟩;have e0 : (((wr.setCell ⟨w.heap.size, 0, none⟩ (.slice x L.length c)).setCell ⟨w.heap.size + 1, 0, none⟩ (.int .i64 0)).setCell ⟨w.heap.size + 1, 1, none⟩ (.int .i64 0)).cell? ⟨w.heap.size, 0, none⟩ = some (.slice x L.length c) := by
    rw [World.cell?_setCell_other (h := fun e => by injection e; omega), World.cell?_setCell_other (h := fun e => by injection e; omega)];exact World.cell?_setCell_same _ _ _ x0
   have e1 : (((wr.setCell ⟨w.heap.size, 0, none⟩ (.slice x L.length c)).setCell ⟨w.heap.size + 1, 0, none⟩ (.int .i64 0)).setCell ⟨w.heap.size + 1, 1, none⟩ (.int .i64 0)).cell? ⟨w.heap.size + 1, 0, none⟩ = some (.int .i64 0) := by
    rw [World.cell?_setCell_other (h := fun e => by injection e; omega)];exact World.cell?_setCell_same _ _ _ ((World.cell?_setCell_other _ _ _ _ (fun e => by injection e; omega)).trans y0)
   have e2 : (((wr.setCell ⟨w.heap.size, 0, none⟩ (.slice x L.length c)).setCell ⟨w.heap.size + 1, 0, none⟩ (.int .i64 0)).setCell ⟨w.heap.size + 1, 1, none⟩ (.int .i64 0)).cell? ⟨w.heap.size + 1, 1, none⟩ = some (.int .i64 0) := by
    refine World.cell?_setCell_same _ _ _ ((World.cell?_setCell_other _ _ _ _ (fun e => by injection e; omega)).trans ((World.cell?_setCell_other _ _ _ _ (fun e => by injection e; omega)).trans z0))
   simp [Leaves, settle, results, Tryz.results83, go_sem, e0, e1, e2];exact ⟨_, _, _, ⟨rfl, rfl, rfl⟩, .inl ⟨L, HTk.out, ((HG.out.put (by simp) _).put (by simp) _).put (by simp) _, rfl, rfl⟩, (((HB.out.setCell (by simp) _).setCell (by simp) _).setCell (by simp) _).drew⟩
def TopIs (w' : World) (B : Nat) (s : ByteArray) (v : Value) (e at' : Int) : Prop :=
 (4000 < s.size /\ v = .slice none 0 0 /\ e = 2 /\ at' = 0) \/ (s.size <= 4000 /\ SplitIs w' B s v e at')
theorem GrowT.mono {w : World} {B B' : Nat} {v : Value} {l : List Tk} (h : GrowT w B v l) (hB : B' <= B) : GrowT w B' v l := by
 refine ⟨h.1, ?_⟩
 rcases h.2 with hn | ⟨g, cap, cur, h1, h2, rest⟩
 ·exact .inl hn
 ·exact .inr ⟨g, cap, cur, h1, Nat.le_trans hB h2, rest⟩
theorem SplitIs.slice {w : World} {B : Nat} {s : ByteArray} {v : Value} {e at' : Int} (h : SplitIs w B s v e at') : ∃ x n c, v = .slice x n c := by
 rcases h with ⟨L, h1, h2, h3⟩ | ⟨_, _, _, _, _, _, h, _⟩
 ·obtain ⟨x, c, h⟩ := h2.slice;exact ⟨x, _, c, h⟩
 ·exact ⟨_, _, _, h⟩
theorem fault_put {w : World} {g : Nat} {a b e f : Int} (h0 : w.cell? ⟨g, 0, none⟩ = some (.int .i64 a)) (h1 : w.cell? ⟨g, 1, none⟩ = some (.int .i64 b)) :
 ((w.setCell ⟨g, 0, none⟩ (.int .i64 e)).setCell ⟨g, 1, none⟩ (.int .i64 f)).cell? ⟨g, 0, none⟩ = some (.int .i64 e) /\ ((w.setCell ⟨g, 0, none⟩ (.int .i64 e)).setCell ⟨g, 1, none⟩ (.int .i64 f)).cell? ⟨g, 1, none⟩ = some (.int .i64 f) := by
 refine ⟨?_, ?_⟩
 ·rw [World.cell?_setCell_other (h := fun e => by injection e; omega)];exact World.cell?_setCell_same _ _ _ h0
 ·exact World.cell?_setCell_same _ _ _ ((World.cell?_setCell_other _ _ _ _ (fun e => by injection e; omega)).trans h1)
theorem Split_any (s : ByteArray) (w : World) (hs : s.size <= 9223372036854775807) (hT : TabE w) :
 Calls Tryz.prog 42 #[.string s] w fun e w' => ∃ v er at', e = .returned (.tuple #[v, .agg #[.int .i64 er, .int .i64 at']]) /\ TopIs w' w.heap.size s v er at' /\ Below w.heap.size w w' := by
 have HT := Hd hT;have HB0 := Hd ((Below.refl w.heap.size w).alloc (Nat.le_refl _) (.cells #[.int .i64 0, .int .i64 0] 42));clear hT
 by_cases h4 : 4000 < s.size
 ·have h4' : (4000 : Int) < (s.size : Int) := by omega
  go_enter Tryz.func42, Tryz.ntmps42
  go_wp2_with fail
  refine bodyPost_ret (v := .tuple #[.slice none 0 0, .agg #[.int .i64 2, .int .i64 0]]) ?_ rfl ⟨_, 2, 0, rfl, .inl ⟨h4, rfl, rfl, rfl⟩, ?_⟩
  ·simp [results, Tryz.results42, go_sem]
  ·exact (Below.refl w.heap.size w).alloc (Nat.le_refl _) _
 ·have h4' : decide ((4000 : Int) < (s.size : Int)) = false := dEf (by omega)
  go_enter Tryz.func42, Tryz.ntmps42
  go_wp2_with fail
  have z0 : (w.alloc (.cells #[.int .i64 0, .int .i64 0] 42)).cell? ⟨w.heap.size, 0, none⟩ = some (.int .i64 0) := by simp
  have z1 : (w.alloc (.cells #[.int .i64 0, .int .i64 0] 42)).cell? ⟨w.heap.size, 1, none⟩ = some (.int .i64 0) := by simp
  have f0 : (w.alloc (.cells #[.int .i64 0, .int .i64 0] 42)).frozen? ⟨w.heap.size, 0, none⟩ = false := by simp
  have f1 : (w.alloc (.cells #[.int .i64 0, .int .i64 0] 42)).frozen? ⟨w.heap.size, 1, none⟩ = false := by simp
  have hsz : w.heap.size + 1 <= (w.alloc (.cells #[.int .i64 0, .int .i64 0] 42)).heap.size := by simp
  generalize w.alloc (.cells #[.int .i64 0, .int .i64 0] 42) = W at *;have hlW : w.heap.size < W.heap.size := by omega
  refine (split_any s W (by omega) (HT.out.below HB0.out)).mono ?_;rintro e w1 ⟨v, er, at', rfl, hsp, hb⟩;obtain ⟨x, n, c, rfl⟩ := hsp.slice;have HB1 := Hd (HB0.out.trans (hb.mono HB0.out.size));have c0 := (hb.cell (p := ⟨w.heap.size, 0, none⟩) hlW).trans z0;have c1 := (hb.cell (p := ⟨w.heap.size, 1, none⟩) hlW).trans z1;have g0 := (hb.frozen (p := ⟨w.heap.size, 0, none⟩) hlW).trans f0;have g1 := (hb.frozen (p := ⟨w.heap.size, 1, none⟩) hlW).trans f1;have HS := Hd hsp;clear hb z0 z1 f0 f1 hsp;have HF := Hd (fault_put (e := er) (f := at') c0 c1);go_wp2_with fail
  refine bodyPost_ret (v := .tuple #[.slice x n c, .agg #[.int .i64 er, .int .i64 at']]) ?_ rfl ⟨_, _, _, rfl, .inr ⟨by omega, ?_⟩, ?_⟩
  ·simp [results, Tryz.results42, go_sem, HF.out.1, HF.out.2]
  ·rcases HS.out with ⟨L, h1, h2, h3⟩ | h
   ·refine .inl ⟨L, h1, GrowT.mono (GrowT.put (GrowT.put h2 (by simp; omega) _) (by simp; omega) _) (by omega), h3⟩
   ·exact .inr h
  ·exact (HB1.out.setCell (by simp) _).setCell (by simp) _
def beg : ByteArray := ⟨#[97, 60, 61, 49, 46, 53, 48]⟩
def t1 : Tk := ⟨1, (beg.extract 0 beg.size).extract 0 1, 0, false, 0⟩
def t2 : Tk := ⟨3, (beg.extract 1 beg.size).extract 0 2, 0, false, 1⟩
def t3 : Tk := ⟨2, (beg.extract 3 beg.size).extract 0 4, 150, true, 3⟩
end Go.Proofs.YtmlpedgcpffpnaaGreatDoor
