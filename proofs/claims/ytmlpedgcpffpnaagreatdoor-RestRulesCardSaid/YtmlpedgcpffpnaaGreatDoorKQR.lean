/-
  Promise F3: the walk of expression.
-/
import Derived.Test.YtmlpedgcpffpnaaGreatDoorKZ0
import Derived.Test.YtmlpedgcpffpnaaGreatDoorKQQ
import Derived.Test.YtmlpedgcpffpnaaGreatDoorKQ3
set_option linter.unusedSimpArgs false
set_option maxRecDepth 100000
set_option maxHeartbeats 8000000
namespace Go.Proofs.YtmlpedgcpffpnaaGreatDoor
open Go.RowKit
theorem own_okP {k n : Int} {s : ByteArray} {m : Nat} (h : ownE k n s m = 0) : 1 <= k /\ k <= 13 /\ (m : Int) = kidsOf k /\ leastOf k <= n /\ n <= mostOf k := by
 unfold ownE at h
 by_cases h1 : k < 1 \/ 13 < k
 ·rw [if_pos h1] at h; omega
 rw [if_neg h1] at h
 by_cases h2 : (m : Int) ≠ kidsOf k
 ·rw [if_pos h2] at h; omega
 rw [if_neg h2] at h
 by_cases h3 : namedB k = true /\ ¬ NameP s
 ·rw [if_pos h3] at h; omega
 rw [if_neg h3] at h
 by_cases h4 : namedB k = false /\ s.size ≠ 0
 ·rw [if_pos h4] at h; omega
 rw [if_neg h4] at h
 by_cases h5 : n < leastOf k \/ mostOf k < n
 ·rw [if_pos h5] at h; omega
 exact ⟨by omega, by omega, by simpa using h2, by omega, by omega⟩
theorem firstE_zeroP {f : Nat -> Int} : ∀ {m : Nat}, firstE f m = 0 -> ∀ j, j < m -> f j = 0
 | 0, _, j, hj => absurd hj (by omega)
 | q + 1, h, j, hj => by
   have e : firstE f (q + 1) = if firstE f q = 0 then f q else firstE f q := rfl
   rw [e] at h
   by_cases h0 : firstE f q = 0
   ·rw [if_pos h0] at h
    by_cases ej : j = q
    ·rw [ej]; exact h
    ·exact firstE_zeroP h0 j (by omega)
   ·rw [if_neg h0] at h; exact absurd h h0
theorem mk_okP {k n : Int} {s : ByteArray} {m : Nat} {kid : Nat -> Ex} (h : (Ex.mk k n s m kid).err = 0) : (1 <= k /\ k <= 13 /\ (m : Int) = kidsOf k /\ leastOf k <= n /\ n <= mostOf k) /\ ∀ j, j < m -> (kid j).err = 0 := by
 rw [err_mk] at h
 by_cases h0 : ownE k n s m = 0
 ·rw [if_pos h0] at h; exact ⟨own_okP h0, firstE_zeroP h⟩
 ·rw [if_neg h0] at h; exact absurd h h0
theorem txt_mk (k n : Int) (s : ByteArray) (m : Nat) (kid : Nat -> Ex) : (Ex.mk k n s m kid).txt =
 if k = 1 then tksL [mT n] else if k = 2 then tksL [s] else if k = 3 then tksL [⟨#[121, 101, 97, 114]⟩, s]
 else if k = 4 then tksL [mT n, ⟨#[37]⟩, ⟨#[111, 102]⟩] ++ wrapT (kid 0).k (kid 0).txt
 else if k = 5 then tksL [⟨#[116, 97, 98, 108, 101]⟩, s, ⟨#[111, 102]⟩] ++ wrapT (kid 0).k (kid 0).txt
 else if k = 6 then tksL [⟨#[45]⟩] ++ wrapT (kid 0).k (kid 0).txt
 else if k = 7 then wrapT (kid 0).k (kid 0).txt ++ (tksL [⟨#[43]⟩] ++ wrapT (kid 1).k (kid 1).txt)
 else if k = 8 then wrapT (kid 0).k (kid 0).txt ++ (tksL [⟨#[45]⟩] ++ wrapT (kid 1).k (kid 1).txt)
 else if k = 9 then wrapT (kid 0).k (kid 0).txt ++ tksL [⟨#[42]⟩, iT n]
 else if k = 10 then wrapT (kid 0).k (kid 0).txt ++ tksL [⟨#[47]⟩, iT n]
 else if k = 11 then tksL [⟨#[109, 105, 110]⟩, ⟨#[40]⟩] ++ ((kid 0).txt ++ (tksL [⟨#[44]⟩] ++ ((kid 1).txt ++ tksL [⟨#[41]⟩])))
 else if k = 12 then tksL [⟨#[109, 97, 120]⟩, ⟨#[40]⟩] ++ ((kid 0).txt ++ (tksL [⟨#[44]⟩] ++ ((kid 1).txt ++ tksL [⟨#[41]⟩])))
 else if k = 13 then tksL [⟨#[105, 102]⟩] ++ ((wrapT (kid 0).k (kid 0).txt ++ (tksL [tsW n.toNat] ++ wrapT (kid 1).k (kid 1).txt)) ++ (tksL [⟨#[116, 104, 101, 110]⟩] ++ ((kid 2).txt ++ (tksL [⟨#[101, 108, 115, 101]⟩] ++ (kid 3).txt))))
 else [] := by rw [Ex.txt]
theorem iT_of {s : ByteArray} {n : Int} (h : s.data.toList = Lib.itoa n) : s = iT n := Mny.ba_ext (by rw [h]; rfl)
theorem exp_1 (W0 : World) (b : Nat) (x : Ex) (hx : x.k = 1)
 (hn : monB x.n = true) (ht : Mny.Tab W0)
 (a : Option Addr) (c : Nat) (l : List UInt8) (w : World) (hk : KidsAt W0 x a) (hp : PtS W0 w b l) (hl : l.length + (tksL [mT x.n]).length <= 1000000000) :
  Calls Tryz.prog 79 #[.pointer (some ⟨b, 0, none⟩), .agg #[.int .i64 x.k, .int .i64 x.n, .string x.s, .slice a x.m c]] w fun e w' => PtR W0 w b l (tksL [mT x.n]) e w' := by
 have HN := Hd hn;have HTB := Hd ht;clear hn ht;have hk9 := hk;clear hk hk9;have hB0 := kbelow_box w (.cells #[.int .i64 x.k, .int .i64 x.n, .string x.s, .slice a x.m c] 50);have HX0 := Hd (par_box w x a c);have HP0 := Hd (hp.below hB0);have HK0 := Hd (kept_below (some b) hB0);have hwb : w.heap.size ≠ b := by have := hp.bld.lt; omega
 clear hB0 hp;rw [hx] at HX0 HP0 HK0 ⊢;have HLE := Hd hl;clear hl hx
 go_enter Tryz.func79, Tryz.ntmps79
 go_wp2_with fail
 refine (hundredths_any _ HN.out _ (HTB.out.below HP0.out.bel)).mono ?_;rintro e w1 ⟨rfl, hb⟩;have HP1 := Hd (HP0.out.below hb);have HK1 := Hd (HK0.out.trans (kept_below (some b) hb));have HX1 := Hd (HX0.out.below hb);clear hb;go_wp2_with fail
 refine (tokens_any W0 b _ 1 1 [mT x.n] _ _ rfl (HP1.out.below (kbelow_box _ _)) (Obx.made_at _ (by simp) _ 9) (by have := HP1.out.bld.lt; first | omega | (simp at this; omega)) (by have := HLE.out; (try simp only [List.length_append] at this ⊢); omega)).mono ?_;rintro e w2 ⟨⟨_, rfl⟩, hp, hk⟩;have HP2 := Hd hp;have HK2 := Hd ((HK1.out.alloc _).trans hk);have HX2 := Hd ((HX1.out.below (kbelow_box _ _)).kept hk hwb (by decide));clear hp hk;go_wp2_with fail
 exact ⟨rfl, .tuple #[], by simp [results, Tryz.results79], ⟨_, rfl⟩, by have := HP2.out; simpa only [List.append_assoc] using this, HK2.out⟩
theorem exp_2 (W0 : World) (b : Nat) (x : Ex) (hx : x.k = 2)
 (a : Option Addr) (c : Nat) (l : List UInt8) (w : World) (hk : KidsAt W0 x a) (hp : PtS W0 w b l) (hl : l.length + (tksL [x.s]).length <= 1000000000) :
  Calls Tryz.prog 79 #[.pointer (some ⟨b, 0, none⟩), .agg #[.int .i64 x.k, .int .i64 x.n, .string x.s, .slice a x.m c]] w fun e w' => PtR W0 w b l (tksL [x.s]) e w' := by
 have hk9 := hk;clear hk hk9;have hB0 := kbelow_box w (.cells #[.int .i64 x.k, .int .i64 x.n, .string x.s, .slice a x.m c] 50);have HX0 := Hd (par_box w x a c);have HP0 := Hd (hp.below hB0);have HK0 := Hd (kept_below (some b) hB0);have hwb : w.heap.size ≠ b := by have := hp.bld.lt; omega
 clear hB0 hp;rw [hx] at HX0 HP0 HK0 ⊢;have HLE := Hd hl;clear hl hx
 go_enter Tryz.func79, Tryz.ntmps79
 go_wp2_with fail
 refine (tokens_any W0 b _ 1 1 [x.s] _ _ rfl (HP0.out.below (kbelow_box _ _)) (Obx.made_at _ (by simp) _ 9) (by have := HP0.out.bld.lt; first | omega | (simp at this; omega)) (by have := HLE.out; (try simp only [List.length_append] at this ⊢); omega)).mono ?_;rintro e w1 ⟨⟨_, rfl⟩, hp, hk⟩;have HP1 := Hd hp;have HK1 := Hd ((HK0.out.alloc _).trans hk);have HX1 := Hd ((HX0.out.below (kbelow_box _ _)).kept hk hwb (by decide));clear hp hk;go_wp2_with fail
 exact ⟨rfl, .tuple #[], by simp [results, Tryz.results79], ⟨_, rfl⟩, by have := HP1.out; simpa only [List.append_assoc] using this, HK1.out⟩
theorem exp_3 (W0 : World) (b : Nat) (x : Ex) (hx : x.k = 3)
 (a : Option Addr) (c : Nat) (l : List UInt8) (w : World) (hk : KidsAt W0 x a) (hp : PtS W0 w b l) (hl : l.length + (tksL [⟨#[121, 101, 97, 114]⟩, x.s]).length <= 1000000000) :
  Calls Tryz.prog 79 #[.pointer (some ⟨b, 0, none⟩), .agg #[.int .i64 x.k, .int .i64 x.n, .string x.s, .slice a x.m c]] w fun e w' => PtR W0 w b l (tksL [⟨#[121, 101, 97, 114]⟩, x.s]) e w' := by
 have hk9 := hk;clear hk hk9;have hB0 := kbelow_box w (.cells #[.int .i64 x.k, .int .i64 x.n, .string x.s, .slice a x.m c] 50);have HX0 := Hd (par_box w x a c);have HP0 := Hd (hp.below hB0);have HK0 := Hd (kept_below (some b) hB0);have hwb : w.heap.size ≠ b := by have := hp.bld.lt; omega
 clear hB0 hp;rw [hx] at HX0 HP0 HK0 ⊢;have HLE := Hd hl;clear hl hx
 go_enter Tryz.func79, Tryz.ntmps79
 go_wp2_with fail
 refine (tokens_any W0 b _ 2 2 [⟨#[121, 101, 97, 114]⟩, x.s] _ _ rfl (HP0.out.below (kbelow_box _ _)) (Obx.made_at _ (by simp) _ 9) (by have := HP0.out.bld.lt; first | omega | (simp at this; omega)) (by have := HLE.out; (try simp only [List.length_append] at this ⊢); omega)).mono ?_;rintro e w1 ⟨⟨_, rfl⟩, hp, hk⟩;have HP1 := Hd hp;have HK1 := Hd ((HK0.out.alloc _).trans hk);have HX1 := Hd ((HX0.out.below (kbelow_box _ _)).kept hk hwb (by decide));clear hp hk;go_wp2_with fail
 exact ⟨rfl, .tuple #[], by simp [results, Tryz.results79], ⟨_, rfl⟩, by have := HP1.out; simpa only [List.append_assoc] using this, HK1.out⟩
theorem exp_4 (W0 : World) (b : Nat) (x : Ex) (hx : x.k = 4)
 (hn : monB x.n = true) (ht : Mny.Tab W0) (hm : 1 <= x.m) (h0 : CtI W0 b (x.kid 0))
 (a : Option Addr) (c : Nat) (l : List UInt8) (w : World) (hk : KidsAt W0 x a) (hp : PtS W0 w b l) (hl : l.length + (tksL [mT x.n, ⟨#[37]⟩, ⟨#[111, 102]⟩] ++ wrapT (x.kid 0).k (x.kid 0).txt).length <= 1000000000) :
  Calls Tryz.prog 79 #[.pointer (some ⟨b, 0, none⟩), .agg #[.int .i64 x.k, .int .i64 x.n, .string x.s, .slice a x.m c]] w fun e w' => PtR W0 w b l (tksL [mT x.n, ⟨#[37]⟩, ⟨#[111, 102]⟩] ++ wrapT (x.kid 0).k (x.kid 0).txt) e w' := by
 have HN := Hd hn;have HTB := Hd ht;clear hn ht;obtain ⟨kb, off, rfl, hkid⟩ := kid_at hk (by omega);obtain ⟨a0, c0, hA0, hC0⟩ := hkid 0 (by omega);have HA0 := Hd hA0;have HC0 := Hd hC0;have H0 := Hd h0;have hm0 : (0 : Int) < (x.m : Int) := by omega
 obtain ⟨a, ha⟩ : ∃ a : Option Addr, a = some ⟨kb, off, none⟩ := ⟨_, rfl⟩;rw [<- ha] at hk ⊢;clear hkid hA0 hC0 h0;have hB0 := kbelow_box w (.cells #[.int .i64 x.k, .int .i64 x.n, .string x.s, .slice a x.m c] 50);have HX0 := Hd (par_box w x a c);have HP0 := Hd (hp.below hB0);have HK0 := Hd (kept_below (some b) hB0);have hwb : w.heap.size ≠ b := by have := hp.bld.lt; omega
 clear hB0 hp;rw [hx] at HX0 HP0 HK0 ⊢;have HLE := Hd hl;clear hl hx
 go_enter Tryz.func79, Tryz.ntmps79
 subst ha;go_wp2_with fail
 refine (hundredths_any _ HN.out _ (HTB.out.below HP0.out.bel)).mono ?_;rintro e w1 ⟨rfl, hb⟩;have HP1 := Hd (HP0.out.below hb);have HK1 := Hd (HK0.out.trans (kept_below (some b) hb));have HX1 := Hd (HX0.out.below hb);clear hb;go_wp2_with fail
 refine (tokens_any W0 b _ 3 3 [mT x.n, ⟨#[37]⟩, ⟨#[111, 102]⟩] _ _ rfl (HP1.out.below (kbelow_box _ _)) (Obx.made_at _ (by simp) _ 9) (by have := HP1.out.bld.lt; first | omega | (simp at this; omega)) (by have := HLE.out; (try simp only [List.length_append] at this ⊢); omega)).mono ?_;rintro e w2 ⟨⟨_, rfl⟩, hp, hk⟩;have HP2 := Hd hp;have HK2 := Hd ((HK1.out.alloc _).trans hk);have HX2 := Hd ((HX1.out.below (kbelow_box _ _)).kept hk hwb (by decide));clear hp hk;obtain ⟨x0, x1, x2, x3⟩ := HX2.out.ex;obtain ⟨y0, y1, y2, y3⟩ := HC0.out _ HP2.out.bel;simp only [Nat.zero_mul, Nat.add_zero, Nat.reduceMul] at y0 y1 y2 y3;have y0' : _ = some (Value.int .i64 (x.kid 0).k) := y0;have y1' : _ = some (Value.int .i64 (x.kid 0).n) := y1;have y2' : _ = some (Value.string (x.kid 0).s) := y2;have y3' : _ = some (Value.slice a0 (x.kid 0).m c0) := y3
 try simp only [Nat.add_assoc, Nat.reduceAdd] at y0 y1 y2 y3
 go_wp2_with fail
 refine (H0.out a0 c0 _ _ HA0.out HP2.out (by have := HLE.out; (try simp only [List.length_append] at this ⊢); omega)).mono ?_;rintro e w3 ⟨⟨_, rfl⟩, hp, hk⟩;have HP3 := Hd hp;have HK3 := Hd (HK2.out.trans hk);have HX3 := Hd (HX2.out.kept hk hwb (by decide));clear hp hk;go_wp2_with fail
 exact ⟨rfl, .tuple #[], by simp [results, Tryz.results79], ⟨_, rfl⟩, by have := HP3.out; simpa only [List.append_assoc] using this, HK3.out⟩
theorem exp_5 (W0 : World) (b : Nat) (x : Ex) (hx : x.k = 5)
 (hm : 1 <= x.m) (h0 : CtI W0 b (x.kid 0))
 (a : Option Addr) (c : Nat) (l : List UInt8) (w : World) (hk : KidsAt W0 x a) (hp : PtS W0 w b l) (hl : l.length + (tksL [⟨#[116, 97, 98, 108, 101]⟩, x.s, ⟨#[111, 102]⟩] ++ wrapT (x.kid 0).k (x.kid 0).txt).length <= 1000000000) :
  Calls Tryz.prog 79 #[.pointer (some ⟨b, 0, none⟩), .agg #[.int .i64 x.k, .int .i64 x.n, .string x.s, .slice a x.m c]] w fun e w' => PtR W0 w b l (tksL [⟨#[116, 97, 98, 108, 101]⟩, x.s, ⟨#[111, 102]⟩] ++ wrapT (x.kid 0).k (x.kid 0).txt) e w' := by
 obtain ⟨kb, off, rfl, hkid⟩ := kid_at hk (by omega);obtain ⟨a0, c0, hA0, hC0⟩ := hkid 0 (by omega);have HA0 := Hd hA0;have HC0 := Hd hC0;have H0 := Hd h0;have hm0 : (0 : Int) < (x.m : Int) := by omega
 obtain ⟨a, ha⟩ : ∃ a : Option Addr, a = some ⟨kb, off, none⟩ := ⟨_, rfl⟩;rw [<- ha] at hk ⊢;clear hkid hA0 hC0 h0;have hB0 := kbelow_box w (.cells #[.int .i64 x.k, .int .i64 x.n, .string x.s, .slice a x.m c] 50);have HX0 := Hd (par_box w x a c);have HP0 := Hd (hp.below hB0);have HK0 := Hd (kept_below (some b) hB0);have hwb : w.heap.size ≠ b := by have := hp.bld.lt; omega
 clear hB0 hp;rw [hx] at HX0 HP0 HK0 ⊢;have HLE := Hd hl;clear hl hx
 go_enter Tryz.func79, Tryz.ntmps79
 subst ha;go_wp2_with fail
 refine (tokens_any W0 b _ 3 3 [⟨#[116, 97, 98, 108, 101]⟩, x.s, ⟨#[111, 102]⟩] _ _ rfl (HP0.out.below (kbelow_box _ _)) (Obx.made_at _ (by simp) _ 9) (by have := HP0.out.bld.lt; first | omega | (simp at this; omega)) (by have := HLE.out; (try simp only [List.length_append] at this ⊢); omega)).mono ?_;rintro e w1 ⟨⟨_, rfl⟩, hp, hk⟩;have HP1 := Hd hp;have HK1 := Hd ((HK0.out.alloc _).trans hk);have HX1 := Hd ((HX0.out.below (kbelow_box _ _)).kept hk hwb (by decide));clear hp hk;obtain ⟨x0, x1, x2, x3⟩ := HX1.out.ex;obtain ⟨y0, y1, y2, y3⟩ := HC0.out _ HP1.out.bel;simp only [Nat.zero_mul, Nat.add_zero, Nat.reduceMul] at y0 y1 y2 y3;have y0' : _ = some (Value.int .i64 (x.kid 0).k) := y0;have y1' : _ = some (Value.int .i64 (x.kid 0).n) := y1;have y2' : _ = some (Value.string (x.kid 0).s) := y2;have y3' : _ = some (Value.slice a0 (x.kid 0).m c0) := y3
 try simp only [Nat.add_assoc, Nat.reduceAdd] at y0 y1 y2 y3
 go_wp2_with fail
 refine (H0.out a0 c0 _ _ HA0.out HP1.out (by have := HLE.out; (try simp only [List.length_append] at this ⊢); omega)).mono ?_;rintro e w2 ⟨⟨_, rfl⟩, hp, hk⟩;have HP2 := Hd hp;have HK2 := Hd (HK1.out.trans hk);have HX2 := Hd (HX1.out.kept hk hwb (by decide));clear hp hk;go_wp2_with fail
 exact ⟨rfl, .tuple #[], by simp [results, Tryz.results79], ⟨_, rfl⟩, by have := HP2.out; simpa only [List.append_assoc] using this, HK2.out⟩
theorem exp_6 (W0 : World) (b : Nat) (x : Ex) (hx : x.k = 6)
 (hm : 1 <= x.m) (h0 : CtI W0 b (x.kid 0))
 (a : Option Addr) (c : Nat) (l : List UInt8) (w : World) (hk : KidsAt W0 x a) (hp : PtS W0 w b l) (hl : l.length + (tksL [⟨#[45]⟩] ++ wrapT (x.kid 0).k (x.kid 0).txt).length <= 1000000000) :
  Calls Tryz.prog 79 #[.pointer (some ⟨b, 0, none⟩), .agg #[.int .i64 x.k, .int .i64 x.n, .string x.s, .slice a x.m c]] w fun e w' => PtR W0 w b l (tksL [⟨#[45]⟩] ++ wrapT (x.kid 0).k (x.kid 0).txt) e w' := by
 obtain ⟨kb, off, rfl, hkid⟩ := kid_at hk (by omega);obtain ⟨a0, c0, hA0, hC0⟩ := hkid 0 (by omega);have HA0 := Hd hA0;have HC0 := Hd hC0;have H0 := Hd h0;have hm0 : (0 : Int) < (x.m : Int) := by omega
 obtain ⟨a, ha⟩ : ∃ a : Option Addr, a = some ⟨kb, off, none⟩ := ⟨_, rfl⟩;rw [<- ha] at hk ⊢;clear hkid hA0 hC0 h0;have hB0 := kbelow_box w (.cells #[.int .i64 x.k, .int .i64 x.n, .string x.s, .slice a x.m c] 50);have HX0 := Hd (par_box w x a c);have HP0 := Hd (hp.below hB0);have HK0 := Hd (kept_below (some b) hB0);have hwb : w.heap.size ≠ b := by have := hp.bld.lt; omega
 clear hB0 hp;rw [hx] at HX0 HP0 HK0 ⊢;have HLE := Hd hl;clear hl hx
 go_enter Tryz.func79, Tryz.ntmps79
 subst ha;go_wp2_with fail
 refine (tokens_any W0 b _ 1 1 [⟨#[45]⟩] _ _ rfl (HP0.out.below (kbelow_box _ _)) (Obx.made_at _ (by simp) _ 9) (by have := HP0.out.bld.lt; first | omega | (simp at this; omega)) (by have := HLE.out; (try simp only [List.length_append] at this ⊢); omega)).mono ?_;rintro e w1 ⟨⟨_, rfl⟩, hp, hk⟩;have HP1 := Hd hp;have HK1 := Hd ((HK0.out.alloc _).trans hk);have HX1 := Hd ((HX0.out.below (kbelow_box _ _)).kept hk hwb (by decide));clear hp hk;obtain ⟨x0, x1, x2, x3⟩ := HX1.out.ex;obtain ⟨y0, y1, y2, y3⟩ := HC0.out _ HP1.out.bel;simp only [Nat.zero_mul, Nat.add_zero, Nat.reduceMul] at y0 y1 y2 y3;have y0' : _ = some (Value.int .i64 (x.kid 0).k) := y0;have y1' : _ = some (Value.int .i64 (x.kid 0).n) := y1;have y2' : _ = some (Value.string (x.kid 0).s) := y2;have y3' : _ = some (Value.slice a0 (x.kid 0).m c0) := y3
 try simp only [Nat.add_assoc, Nat.reduceAdd] at y0 y1 y2 y3
 go_wp2_with fail
 refine (H0.out a0 c0 _ _ HA0.out HP1.out (by have := HLE.out; (try simp only [List.length_append] at this ⊢); omega)).mono ?_;rintro e w2 ⟨⟨_, rfl⟩, hp, hk⟩;have HP2 := Hd hp;have HK2 := Hd (HK1.out.trans hk);have HX2 := Hd (HX1.out.kept hk hwb (by decide));clear hp hk;go_wp2_with fail
 exact ⟨rfl, .tuple #[], by simp [results, Tryz.results79], ⟨_, rfl⟩, by have := HP2.out; simpa only [List.append_assoc] using this, HK2.out⟩
theorem exp_7 (W0 : World) (b : Nat) (x : Ex) (hx : x.k = 7)
 (hm : 2 <= x.m) (h0 : CtI W0 b (x.kid 0)) (h1 : CtI W0 b (x.kid 1))
 (a : Option Addr) (c : Nat) (l : List UInt8) (w : World) (hk : KidsAt W0 x a) (hp : PtS W0 w b l) (hl : l.length + (wrapT (x.kid 0).k (x.kid 0).txt ++ (tksL [⟨#[43]⟩] ++ wrapT (x.kid 1).k (x.kid 1).txt)).length <= 1000000000) :
  Calls Tryz.prog 79 #[.pointer (some ⟨b, 0, none⟩), .agg #[.int .i64 x.k, .int .i64 x.n, .string x.s, .slice a x.m c]] w fun e w' => PtR W0 w b l (wrapT (x.kid 0).k (x.kid 0).txt ++ (tksL [⟨#[43]⟩] ++ wrapT (x.kid 1).k (x.kid 1).txt)) e w' := by
 have hsd := fun l w hp hl => sides_any W0 b x hm h0 h1 ⟨#[43]⟩ a c l w hk hp hl
 rw [hx] at hsd;have HSD := Hd hsd;clear hsd h0 h1 hk;have hB0 := kbelow_box w (.cells #[.int .i64 x.k, .int .i64 x.n, .string x.s, .slice a x.m c] 50);have HX0 := Hd (par_box w x a c);have HP0 := Hd (hp.below hB0);have HK0 := Hd (kept_below (some b) hB0);have hwb : w.heap.size ≠ b := by have := hp.bld.lt; omega
 clear hB0 hp;rw [hx] at HX0 HP0 HK0 ⊢;have HLE := Hd hl;clear hl hx
 go_enter Tryz.func79, Tryz.ntmps79
 go_wp2_with fail
 refine (HSD.out _ _ HP0.out (by have := HLE.out; simp only [List.length_append] at this ⊢; omega)).mono ?_;rintro e w1 ⟨⟨_, rfl⟩, hp, hk⟩;have HP1 := Hd hp;have HK1 := Hd (HK0.out.trans hk);clear hp hk;go_wp2_with fail
 exact ⟨rfl, .tuple #[], by simp [results, Tryz.results79], ⟨_, rfl⟩, by have := HP1.out; simpa only [List.append_assoc] using this, HK1.out⟩
theorem exp_8 (W0 : World) (b : Nat) (x : Ex) (hx : x.k = 8)
 (hm : 2 <= x.m) (h0 : CtI W0 b (x.kid 0)) (h1 : CtI W0 b (x.kid 1))
 (a : Option Addr) (c : Nat) (l : List UInt8) (w : World) (hk : KidsAt W0 x a) (hp : PtS W0 w b l) (hl : l.length + (wrapT (x.kid 0).k (x.kid 0).txt ++ (tksL [⟨#[45]⟩] ++ wrapT (x.kid 1).k (x.kid 1).txt)).length <= 1000000000) :
  Calls Tryz.prog 79 #[.pointer (some ⟨b, 0, none⟩), .agg #[.int .i64 x.k, .int .i64 x.n, .string x.s, .slice a x.m c]] w fun e w' => PtR W0 w b l (wrapT (x.kid 0).k (x.kid 0).txt ++ (tksL [⟨#[45]⟩] ++ wrapT (x.kid 1).k (x.kid 1).txt)) e w' := by
 have hsd := fun l w hp hl => sides_any W0 b x hm h0 h1 ⟨#[45]⟩ a c l w hk hp hl
 rw [hx] at hsd;have HSD := Hd hsd;clear hsd h0 h1 hk;have hB0 := kbelow_box w (.cells #[.int .i64 x.k, .int .i64 x.n, .string x.s, .slice a x.m c] 50);have HX0 := Hd (par_box w x a c);have HP0 := Hd (hp.below hB0);have HK0 := Hd (kept_below (some b) hB0);have hwb : w.heap.size ≠ b := by have := hp.bld.lt; omega
 clear hB0 hp;rw [hx] at HX0 HP0 HK0 ⊢;have HLE := Hd hl;clear hl hx
 go_enter Tryz.func79, Tryz.ntmps79
 go_wp2_with fail
 refine (HSD.out _ _ HP0.out (by have := HLE.out; simp only [List.length_append] at this ⊢; omega)).mono ?_;rintro e w1 ⟨⟨_, rfl⟩, hp, hk⟩;have HP1 := Hd hp;have HK1 := Hd (HK0.out.trans hk);clear hp hk;go_wp2_with fail
 exact ⟨rfl, .tuple #[], by simp [results, Tryz.results79], ⟨_, rfl⟩, by have := HP1.out; simpa only [List.append_assoc] using this, HK1.out⟩
theorem exp_9 (W0 : World) (b : Nat) (x : Ex) (hx : x.k = 9)
 (hm : 1 <= x.m) (h0 : CtI W0 b (x.kid 0)) (hn : 1 <= x.n /\ x.n <= 1000000) (ht : Mny.Tab W0)
 (a : Option Addr) (c : Nat) (l : List UInt8) (w : World) (hk : KidsAt W0 x a) (hp : PtS W0 w b l) (hl : l.length + (wrapT (x.kid 0).k (x.kid 0).txt ++ tksL [⟨#[42]⟩, iT x.n]).length <= 1000000000) :
  Calls Tryz.prog 79 #[.pointer (some ⟨b, 0, none⟩), .agg #[.int .i64 x.k, .int .i64 x.n, .string x.s, .slice a x.m c]] w fun e w' => PtR W0 w b l (wrapT (x.kid 0).k (x.kid 0).txt ++ tksL [⟨#[42]⟩, iT x.n]) e w' := by
 have HN := Hd hn;have HTB := Hd ht;clear hn ht;obtain ⟨kb, off, rfl, hkid⟩ := kid_at hk (by omega);obtain ⟨a0, c0, hA0, hC0⟩ := hkid 0 (by omega);have HA0 := Hd hA0;have HC0 := Hd hC0;have H0 := Hd h0;have hm0 : (0 : Int) < (x.m : Int) := by omega
 obtain ⟨a, ha⟩ : ∃ a : Option Addr, a = some ⟨kb, off, none⟩ := ⟨_, rfl⟩;rw [<- ha] at hk ⊢;clear hkid hA0 hC0 h0;have hB0 := kbelow_box w (.cells #[.int .i64 x.k, .int .i64 x.n, .string x.s, .slice a x.m c] 50);have HX0 := Hd (par_box w x a c);have HP0 := Hd (hp.below hB0);have HK0 := Hd (kept_below (some b) hB0);have hwb : w.heap.size ≠ b := by have := hp.bld.lt; omega
 clear hB0 hp;rw [hx] at HX0 HP0 HK0 ⊢;have HLE := Hd hl;clear hl hx
 go_enter Tryz.func79, Tryz.ntmps79
 subst ha;obtain ⟨y0, y1, y2, y3⟩ := HC0.out _ HP0.out.bel;simp only [Nat.zero_mul, Nat.add_zero, Nat.reduceMul] at y0 y1 y2 y3;have y0' : _ = some (Value.int .i64 (x.kid 0).k) := y0;have y1' : _ = some (Value.int .i64 (x.kid 0).n) := y1;have y2' : _ = some (Value.string (x.kid 0).s) := y2;have y3' : _ = some (Value.slice a0 (x.kid 0).m c0) := y3
 try simp only [Nat.add_assoc, Nat.reduceAdd] at y0 y1 y2 y3
 go_wp2_with fail
 refine (H0.out a0 c0 _ _ HA0.out HP0.out (by have := HLE.out; (try simp only [List.length_append] at this ⊢); omega)).mono ?_;rintro e w1 ⟨⟨_, rfl⟩, hp, hk⟩;have HP1 := Hd hp;have HK1 := Hd (HK0.out.trans hk);have HX1 := Hd (HX0.out.kept hk hwb (by decide));clear hp hk;clear y0' y1' y2' y3' y0 y1 y2 y3;obtain ⟨x0, x1, x2, x3⟩ := HX1.out.ex;go_wp2_with fail
 refine (Mny.itoa_any _ (by have := HN.out; omega) (by have := HN.out; omega) _ (HTB.out.below HP1.out.bel)).mono ?_;rintro e w2 ⟨s, rfl, hs, _, hb⟩;have HS := Hd (iT_of hs.out);have HP2 := Hd (HP1.out.below hb);have HK2 := Hd (HK1.out.trans (kept_below (some b) hb));have HX2 := Hd (HX1.out.below hb);clear hb;clear hs x0 x1 x2 x3;rw [HS.out];go_wp2_with fail
 refine (tokens_any W0 b _ 2 2 [⟨#[42]⟩, iT x.n] _ _ rfl (HP2.out.below (kbelow_box _ _)) (Obx.made_at _ (by simp) _ 9) (by have := HP2.out.bld.lt; first | omega | (simp at this; omega)) (by have := HLE.out; (try simp only [List.length_append] at this ⊢); omega)).mono ?_;rintro e w3 ⟨⟨_, rfl⟩, hp, hk⟩;have HP3 := Hd hp;have HK3 := Hd ((HK2.out.alloc _).trans hk);have HX3 := Hd ((HX2.out.below (kbelow_box _ _)).kept hk hwb (by decide));clear hp hk;go_wp2_with fail
 exact ⟨rfl, .tuple #[], by simp [results, Tryz.results79], ⟨_, rfl⟩, by have := HP3.out; simpa only [List.append_assoc] using this, HK3.out⟩
theorem exp_10 (W0 : World) (b : Nat) (x : Ex) (hx : x.k = 10)
 (hm : 1 <= x.m) (h0 : CtI W0 b (x.kid 0)) (hn : 1 <= x.n /\ x.n <= 1000000) (ht : Mny.Tab W0)
 (a : Option Addr) (c : Nat) (l : List UInt8) (w : World) (hk : KidsAt W0 x a) (hp : PtS W0 w b l) (hl : l.length + (wrapT (x.kid 0).k (x.kid 0).txt ++ tksL [⟨#[47]⟩, iT x.n]).length <= 1000000000) :
  Calls Tryz.prog 79 #[.pointer (some ⟨b, 0, none⟩), .agg #[.int .i64 x.k, .int .i64 x.n, .string x.s, .slice a x.m c]] w fun e w' => PtR W0 w b l (wrapT (x.kid 0).k (x.kid 0).txt ++ tksL [⟨#[47]⟩, iT x.n]) e w' := by
 have HN := Hd hn;have HTB := Hd ht;clear hn ht;obtain ⟨kb, off, rfl, hkid⟩ := kid_at hk (by omega);obtain ⟨a0, c0, hA0, hC0⟩ := hkid 0 (by omega);have HA0 := Hd hA0;have HC0 := Hd hC0;have H0 := Hd h0;have hm0 : (0 : Int) < (x.m : Int) := by omega
 obtain ⟨a, ha⟩ : ∃ a : Option Addr, a = some ⟨kb, off, none⟩ := ⟨_, rfl⟩;rw [<- ha] at hk ⊢;clear hkid hA0 hC0 h0;have hB0 := kbelow_box w (.cells #[.int .i64 x.k, .int .i64 x.n, .string x.s, .slice a x.m c] 50);have HX0 := Hd (par_box w x a c);have HP0 := Hd (hp.below hB0);have HK0 := Hd (kept_below (some b) hB0);have hwb : w.heap.size ≠ b := by have := hp.bld.lt; omega
 clear hB0 hp;rw [hx] at HX0 HP0 HK0 ⊢;have HLE := Hd hl;clear hl hx
 go_enter Tryz.func79, Tryz.ntmps79
 subst ha;obtain ⟨y0, y1, y2, y3⟩ := HC0.out _ HP0.out.bel;simp only [Nat.zero_mul, Nat.add_zero, Nat.reduceMul] at y0 y1 y2 y3;have y0' : _ = some (Value.int .i64 (x.kid 0).k) := y0;have y1' : _ = some (Value.int .i64 (x.kid 0).n) := y1;have y2' : _ = some (Value.string (x.kid 0).s) := y2;have y3' : _ = some (Value.slice a0 (x.kid 0).m c0) := y3
 try simp only [Nat.add_assoc, Nat.reduceAdd] at y0 y1 y2 y3
 go_wp2_with fail
 refine (H0.out a0 c0 _ _ HA0.out HP0.out (by have := HLE.out; (try simp only [List.length_append] at this ⊢); omega)).mono ?_;rintro e w1 ⟨⟨_, rfl⟩, hp, hk⟩;have HP1 := Hd hp;have HK1 := Hd (HK0.out.trans hk);have HX1 := Hd (HX0.out.kept hk hwb (by decide));clear hp hk;clear y0' y1' y2' y3' y0 y1 y2 y3;obtain ⟨x0, x1, x2, x3⟩ := HX1.out.ex;go_wp2_with fail
 refine (Mny.itoa_any _ (by have := HN.out; omega) (by have := HN.out; omega) _ (HTB.out.below HP1.out.bel)).mono ?_;rintro e w2 ⟨s, rfl, hs, _, hb⟩;have HS := Hd (iT_of hs.out);have HP2 := Hd (HP1.out.below hb);have HK2 := Hd (HK1.out.trans (kept_below (some b) hb));have HX2 := Hd (HX1.out.below hb);clear hb;clear hs x0 x1 x2 x3;rw [HS.out];go_wp2_with fail
 refine (tokens_any W0 b _ 2 2 [⟨#[47]⟩, iT x.n] _ _ rfl (HP2.out.below (kbelow_box _ _)) (Obx.made_at _ (by simp) _ 9) (by have := HP2.out.bld.lt; first | omega | (simp at this; omega)) (by have := HLE.out; (try simp only [List.length_append] at this ⊢); omega)).mono ?_;rintro e w3 ⟨⟨_, rfl⟩, hp, hk⟩;have HP3 := Hd hp;have HK3 := Hd ((HK2.out.alloc _).trans hk);have HX3 := Hd ((HX2.out.below (kbelow_box _ _)).kept hk hwb (by decide));clear hp hk;go_wp2_with fail
 exact ⟨rfl, .tuple #[], by simp [results, Tryz.results79], ⟨_, rfl⟩, by have := HP3.out; simpa only [List.append_assoc] using this, HK3.out⟩
theorem exp_11 (W0 : World) (b : Nat) (x : Ex) (hx : x.k = 11)
 (hm : 2 <= x.m) (h0 : CtE W0 b (x.kid 0)) (h1 : CtE W0 b (x.kid 1))
 (a : Option Addr) (c : Nat) (l : List UInt8) (w : World) (hk : KidsAt W0 x a) (hp : PtS W0 w b l) (hl : l.length + (tksL [⟨#[109, 105, 110]⟩, ⟨#[40]⟩] ++ ((x.kid 0).txt ++ (tksL [⟨#[44]⟩] ++ ((x.kid 1).txt ++ tksL [⟨#[41]⟩])))).length <= 1000000000) :
  Calls Tryz.prog 79 #[.pointer (some ⟨b, 0, none⟩), .agg #[.int .i64 x.k, .int .i64 x.n, .string x.s, .slice a x.m c]] w fun e w' => PtR W0 w b l (tksL [⟨#[109, 105, 110]⟩, ⟨#[40]⟩] ++ ((x.kid 0).txt ++ (tksL [⟨#[44]⟩] ++ ((x.kid 1).txt ++ tksL [⟨#[41]⟩])))) e w' := by
 have hsd := fun l w hp hl => pboth_any W0 b x hm h0 h1 ⟨#[109, 105, 110]⟩ a c l w hk hp hl
 rw [hx] at hsd;have HSD := Hd hsd;clear hsd h0 h1 hk;have hB0 := kbelow_box w (.cells #[.int .i64 x.k, .int .i64 x.n, .string x.s, .slice a x.m c] 50);have HX0 := Hd (par_box w x a c);have HP0 := Hd (hp.below hB0);have HK0 := Hd (kept_below (some b) hB0);have hwb : w.heap.size ≠ b := by have := hp.bld.lt; omega
 clear hB0 hp;rw [hx] at HX0 HP0 HK0 ⊢;have HLE := Hd hl;clear hl hx
 go_enter Tryz.func79, Tryz.ntmps79
 go_wp2_with fail
 refine (HSD.out _ _ HP0.out (by have := HLE.out; simp only [List.length_append] at this ⊢; omega)).mono ?_;rintro e w1 ⟨⟨_, rfl⟩, hp, hk⟩;have HP1 := Hd hp;have HK1 := Hd (HK0.out.trans hk);clear hp hk;go_wp2_with fail
 exact ⟨rfl, .tuple #[], by simp [results, Tryz.results79], ⟨_, rfl⟩, by have := HP1.out; simpa only [List.append_assoc] using this, HK1.out⟩
theorem exp_12 (W0 : World) (b : Nat) (x : Ex) (hx : x.k = 12)
 (hm : 2 <= x.m) (h0 : CtE W0 b (x.kid 0)) (h1 : CtE W0 b (x.kid 1))
 (a : Option Addr) (c : Nat) (l : List UInt8) (w : World) (hk : KidsAt W0 x a) (hp : PtS W0 w b l) (hl : l.length + (tksL [⟨#[109, 97, 120]⟩, ⟨#[40]⟩] ++ ((x.kid 0).txt ++ (tksL [⟨#[44]⟩] ++ ((x.kid 1).txt ++ tksL [⟨#[41]⟩])))).length <= 1000000000) :
  Calls Tryz.prog 79 #[.pointer (some ⟨b, 0, none⟩), .agg #[.int .i64 x.k, .int .i64 x.n, .string x.s, .slice a x.m c]] w fun e w' => PtR W0 w b l (tksL [⟨#[109, 97, 120]⟩, ⟨#[40]⟩] ++ ((x.kid 0).txt ++ (tksL [⟨#[44]⟩] ++ ((x.kid 1).txt ++ tksL [⟨#[41]⟩])))) e w' := by
 have hsd := fun l w hp hl => pboth_any W0 b x hm h0 h1 ⟨#[109, 97, 120]⟩ a c l w hk hp hl
 rw [hx] at hsd;have HSD := Hd hsd;clear hsd h0 h1 hk;have hB0 := kbelow_box w (.cells #[.int .i64 x.k, .int .i64 x.n, .string x.s, .slice a x.m c] 50);have HX0 := Hd (par_box w x a c);have HP0 := Hd (hp.below hB0);have HK0 := Hd (kept_below (some b) hB0);have hwb : w.heap.size ≠ b := by have := hp.bld.lt; omega
 clear hB0 hp;rw [hx] at HX0 HP0 HK0 ⊢;have HLE := Hd hl;clear hl hx
 go_enter Tryz.func79, Tryz.ntmps79
 go_wp2_with fail
 refine (HSD.out _ _ HP0.out (by have := HLE.out; simp only [List.length_append] at this ⊢; omega)).mono ?_;rintro e w1 ⟨⟨_, rfl⟩, hp, hk⟩;have HP1 := Hd hp;have HK1 := Hd (HK0.out.trans hk);clear hp hk;go_wp2_with fail
 exact ⟨rfl, .tuple #[], by simp [results, Tryz.results79], ⟨_, rfl⟩, by have := HP1.out; simpa only [List.append_assoc] using this, HK1.out⟩
theorem exp_13 (W0 : World) (b : Nat) (x : Ex) (hx : x.k = 13)
 (hm : 4 <= x.m) (t : Nat) (ht : x.n = (t : Int)) (ht4 : t < 4) (hT : TSs W0) (h0 : CtI W0 b (x.kid 0)) (h1 : CtI W0 b (x.kid 1)) (h2 : CtE W0 b (x.kid 2)) (h3 : CtE W0 b (x.kid 3))
 (a : Option Addr) (c : Nat) (l : List UInt8) (w : World) (hk : KidsAt W0 x a) (hp : PtS W0 w b l) (hl : l.length + (tksL [⟨#[105, 102]⟩] ++ ((wrapT (x.kid 0).k (x.kid 0).txt ++ (tksL [tsW t] ++ wrapT (x.kid 1).k (x.kid 1).txt)) ++ (tksL [⟨#[116, 104, 101, 110]⟩] ++ ((x.kid 2).txt ++ (tksL [⟨#[101, 108, 115, 101]⟩] ++ (x.kid 3).txt))))).length <= 1000000000) :
  Calls Tryz.prog 79 #[.pointer (some ⟨b, 0, none⟩), .agg #[.int .i64 x.k, .int .i64 x.n, .string x.s, .slice a x.m c]] w fun e w' => PtR W0 w b l (tksL [⟨#[105, 102]⟩] ++ ((wrapT (x.kid 0).k (x.kid 0).txt ++ (tksL [tsW t] ++ wrapT (x.kid 1).k (x.kid 1).txt)) ++ (tksL [⟨#[116, 104, 101, 110]⟩] ++ ((x.kid 2).txt ++ (tksL [⟨#[101, 108, 115, 101]⟩] ++ (x.kid 3).txt))))) e w' := by
 have hsd := fun l w hp hl => choice_any W0 b x hm t ht ht4 hT h0 h1 h2 h3 a c l w hk hp hl
 rw [hx] at hsd;have HSD := Hd hsd;clear hsd h0 h1 h2 h3 hk ht hT;have hB0 := kbelow_box w (.cells #[.int .i64 x.k, .int .i64 x.n, .string x.s, .slice a x.m c] 50);have HX0 := Hd (par_box w x a c);have HP0 := Hd (hp.below hB0);have HK0 := Hd (kept_below (some b) hB0);have hwb : w.heap.size ≠ b := by have := hp.bld.lt; omega
 clear hB0 hp;rw [hx] at HX0 HP0 HK0 ⊢;have HLE := Hd hl;clear hl hx
 go_enter Tryz.func79, Tryz.ntmps79
 go_wp2_with fail
 refine (HSD.out _ _ HP0.out (by have := HLE.out; simp only [List.length_append] at this ⊢; omega)).mono ?_;rintro e w1 ⟨⟨_, rfl⟩, hp, hk⟩;have HP1 := Hd hp;have HK1 := Hd (HK0.out.trans hk);clear hp hk;go_wp2_with fail
 exact ⟨rfl, .tuple #[], by simp [results, Tryz.results79], ⟨_, rfl⟩, by have := HP1.out; simpa only [List.append_assoc] using this, HK1.out⟩
theorem expr_all {W0 : World} (hT : TSs W0) (ht : Mny.Tab W0) (b : Nat) : ∀ x : Ex, x.err = 0 -> CtE W0 b x := by
 intro x
 induction x with
 | no => intro _ a c l w hk; exact hk.elim
 | mk k n s m kid ih =>
   intro he;obtain ⟨⟨hk1, hk13, hm, hn0, hn1⟩, hkd⟩ := mk_okP he;have hE : ∀ j, j < m -> CtE W0 b (kid j) := fun j hj => ih j (hkd j hj)
   have hI : ∀ j, j < m -> CtI W0 b (kid j) := fun j hj => inner_any W0 b (kid j) (hE j hj)
   clear ih hkd he;intro a c l w hk hp hl;have hc : k = 1 \/ k = 2 \/ k = 3 \/ k = 4 \/ k = 5 \/ k = 6 \/ k = 7 \/ k = 8 \/ k = 9 \/ k = 10 \/ k = 11 \/ k = 12 \/ k = 13 := by omega
   rcases hc with rfl | rfl | rfl | rfl | rfl | rfl | rfl | rfl | rfl | rfl | rfl | rfl | rfl
   ·have ex : (Ex.mk 1 n s m kid).txt = _ := txt_mk 1 n s m kid;simp only [reduceIte, Int.reduceEq] at ex;rw [ex] at hl ⊢;exact exp_1 W0 b (Ex.mk 1 n s m kid) rfl (decide_eq_true (by simp [leastOf, mostOf] at hn0 hn1; exact ⟨by simp only [Ex.n]; omega, by simp only [Ex.n]; omega⟩)) ht a c l w hk hp hl
   ·have ex : (Ex.mk 2 n s m kid).txt = _ := txt_mk 2 n s m kid;simp only [reduceIte, Int.reduceEq] at ex;rw [ex] at hl ⊢;exact exp_2 W0 b (Ex.mk 2 n s m kid) rfl a c l w hk hp hl
   ·have ex : (Ex.mk 3 n s m kid).txt = _ := txt_mk 3 n s m kid;simp only [reduceIte, Int.reduceEq] at ex;rw [ex] at hl ⊢;exact exp_3 W0 b (Ex.mk 3 n s m kid) rfl a c l w hk hp hl
   ·have ex : (Ex.mk 4 n s m kid).txt = _ := txt_mk 4 n s m kid;simp only [reduceIte, Int.reduceEq] at ex;rw [ex] at hl ⊢;have hm' : m = 1 := by simp [kidsOf] at hm; omega
    exact exp_4 W0 b (Ex.mk 4 n s m kid) rfl (decide_eq_true (by simp [leastOf, mostOf] at hn0 hn1; exact ⟨by simp only [Ex.n]; omega, by simp only [Ex.n]; omega⟩)) ht (Nat.le_of_eq hm'.symm) (hI 0 (by omega)) a c l w hk hp hl
   ·have ex : (Ex.mk 5 n s m kid).txt = _ := txt_mk 5 n s m kid;simp only [reduceIte, Int.reduceEq] at ex;rw [ex] at hl ⊢;have hm' : m = 1 := by simp [kidsOf] at hm; omega
    exact exp_5 W0 b (Ex.mk 5 n s m kid) rfl (Nat.le_of_eq hm'.symm) (hI 0 (by omega)) a c l w hk hp hl
   ·have ex : (Ex.mk 6 n s m kid).txt = _ := txt_mk 6 n s m kid;simp only [reduceIte, Int.reduceEq] at ex;rw [ex] at hl ⊢;have hm' : m = 1 := by simp [kidsOf] at hm; omega
    exact exp_6 W0 b (Ex.mk 6 n s m kid) rfl (Nat.le_of_eq hm'.symm) (hI 0 (by omega)) a c l w hk hp hl
   ·have ex : (Ex.mk 7 n s m kid).txt = _ := txt_mk 7 n s m kid;simp only [reduceIte, Int.reduceEq] at ex;rw [ex] at hl ⊢;have hm' : m = 2 := by simp [kidsOf] at hm; omega
    exact exp_7 W0 b (Ex.mk 7 n s m kid) rfl (Nat.le_of_eq hm'.symm) (hI 0 (by omega)) (hI 1 (by omega)) a c l w hk hp hl
   ·have ex : (Ex.mk 8 n s m kid).txt = _ := txt_mk 8 n s m kid;simp only [reduceIte, Int.reduceEq] at ex;rw [ex] at hl ⊢;have hm' : m = 2 := by simp [kidsOf] at hm; omega
    exact exp_8 W0 b (Ex.mk 8 n s m kid) rfl (Nat.le_of_eq hm'.symm) (hI 0 (by omega)) (hI 1 (by omega)) a c l w hk hp hl
   ·have ex : (Ex.mk 9 n s m kid).txt = _ := txt_mk 9 n s m kid;simp only [reduceIte, Int.reduceEq] at ex;rw [ex] at hl ⊢;have hm' : m = 1 := by simp [kidsOf] at hm; omega
    exact exp_9 W0 b (Ex.mk 9 n s m kid) rfl (Nat.le_of_eq hm'.symm) (hI 0 (by omega)) (by simp [leastOf, mostOf] at hn0 hn1; exact ⟨by simp only [Ex.n]; omega, by simp only [Ex.n]; omega⟩) ht a c l w hk hp hl
   ·have ex : (Ex.mk 10 n s m kid).txt = _ := txt_mk 10 n s m kid;simp only [reduceIte, Int.reduceEq] at ex;rw [ex] at hl ⊢;have hm' : m = 1 := by simp [kidsOf] at hm; omega
    exact exp_10 W0 b (Ex.mk 10 n s m kid) rfl (Nat.le_of_eq hm'.symm) (hI 0 (by omega)) (by simp [leastOf, mostOf] at hn0 hn1; exact ⟨by simp only [Ex.n]; omega, by simp only [Ex.n]; omega⟩) ht a c l w hk hp hl
   ·have ex : (Ex.mk 11 n s m kid).txt = _ := txt_mk 11 n s m kid;simp only [reduceIte, Int.reduceEq] at ex;rw [ex] at hl ⊢;have hm' : m = 2 := by simp [kidsOf] at hm; omega
    exact exp_11 W0 b (Ex.mk 11 n s m kid) rfl (Nat.le_of_eq hm'.symm) (hE 0 (by omega)) (hE 1 (by omega)) a c l w hk hp hl
   ·have ex : (Ex.mk 12 n s m kid).txt = _ := txt_mk 12 n s m kid;simp only [reduceIte, Int.reduceEq] at ex;rw [ex] at hl ⊢;have hm' : m = 2 := by simp [kidsOf] at hm; omega
    exact exp_12 W0 b (Ex.mk 12 n s m kid) rfl (Nat.le_of_eq hm'.symm) (hE 0 (by omega)) (hE 1 (by omega)) a c l w hk hp hl
   ·have ex : (Ex.mk 13 n s m kid).txt = _ := txt_mk 13 n s m kid;simp only [reduceIte, Int.reduceEq] at ex;rw [ex] at hl ⊢;have hm' : m = 4 := by simp [kidsOf] at hm; omega
    simp [leastOf, mostOf] at hn0 hn1;exact exp_13 W0 b (Ex.mk 13 n s m kid) rfl (Nat.le_of_eq hm'.symm) n.toNat (by simp only [Ex.n]; omega) (by omega) hT (hI 0 (by omega)) (hI 1 (by omega)) (hE 2 (by omega)) (hE 3 (by omega)) a c l w hk hp hl
theorem own_nmP {k n : Int} {s : ByteArray} {m : Nat} (h : ownE k n s m = 0) (hk : namedB k = true) : s.size <= 8 := by
 unfold ownE at h
 by_cases h1 : k < 1 \/ 13 < k
 ·rw [if_pos h1] at h; omega
 rw [if_neg h1] at h
 by_cases h2 : (m : Int) ≠ kidsOf k
 ·rw [if_pos h2] at h; omega
 rw [if_neg h2] at h
 by_cases h3 : namedB k = true /\ ¬ NameP s
 ·rw [if_pos h3] at h; omega
 exact (Classical.byContradiction fun hc => h3 ⟨hk, hc⟩ : NameP s).2.1
theorem tksL_len (s : ByteArray) (r : List ByteArray) : (tksL (s :: r)).length = s.size + 1 + (tksL r).length := by
 have hss : s.data.toList.length = s.size := Array.length_toList;simp only [tksL, tkL, List.length_append, List.length_cons, List.length_nil, hss]
theorem tksL_nil : (tksL []).length = 0 := rfl
theorem wrap_len (k : Int) (t : List UInt8) : (wrapT k t).length <= t.length + 4 := by
 unfold wrapT
 split
 ·simp only [List.length_append, tksL_len, tksL_nil];have e0 : (⟨#[40]⟩ : ByteArray).size = 1 := rfl;have e1 : (⟨#[41]⟩ : ByteArray).size = 1 := rfl;omega
 ·omega
theorem iT_len {n : Int} (h0 : 0 <= n) (h1 : n <= 1000000000000) : (iT n).size <= 21 := by
 have := Lib.itoa_length_le n (by omega) (by omega)
 simpa [iT, ByteArray.size] using this
theorem mT_len {n : Int} (h0 : 0 <= n) (h1 : n <= 1000000000000) : (mT n).size <= 25 := by
 have h := Lib.itoa_length_le ((n.natAbs / 100 : Nat) : Int) (by omega) (by omega);rw [Mny.itoa_nat] at h;have e : (mT n).size = (Mny.printL n).length := by simp [mT, ByteArray.size]
 rw [e, Mny.printL, if_neg (by omega)];simp only [List.length_append, List.length_cons, List.length_nil];omega
theorem ts_len {t : Nat} (h : t < 4) : (tsW t).size <= 2 := by
 match t, h with
 | 0, _ => decide
 | 1, _ => decide
 | 2, _ => decide
 | 3, _ => decide
theorem txt_len : ∀ x : Ex, x.err = 0 -> x.txt.length <= 100 * x.parts := by
 intro x
 induction x with
 | no => intro _; rw [Ex.txt]; exact Nat.zero_le _
 | mk k n s m kid ih =>
   intro he;have he' := he;rw [err_mk] at he';have how : ownE k n s m = 0 := Classical.byContradiction fun hc => by rw [if_neg hc] at he'; exact hc he'
   have hnm := own_nmP how;obtain ⟨⟨hk1, hk13, hm, hn0, hn1⟩, hkd⟩ := mk_okP he;have hp : (Ex.mk k n s m kid).parts = 1 + sumN (fun j => (kid j).parts) m := by rw [Ex.parts]
   rw [hp];replace ih : ∀ j, (kid j).err = 0 -> (kid j).txt.length <= 100 * (kid j).parts := ih;have z1 : (⟨#[121, 101, 97, 114]⟩ : ByteArray).size = 4 := rfl;have z2 : (⟨#[37]⟩ : ByteArray).size = 1 := rfl;have z3 : (⟨#[111, 102]⟩ : ByteArray).size = 2 := rfl;have z4 : (⟨#[116, 97, 98, 108, 101]⟩ : ByteArray).size = 5 := rfl;have z5 : (⟨#[45]⟩ : ByteArray).size = 1 := rfl;have z6 : (⟨#[43]⟩ : ByteArray).size = 1 := rfl;have z7 : (⟨#[42]⟩ : ByteArray).size = 1 := rfl;have z8 : (⟨#[47]⟩ : ByteArray).size = 1 := rfl;have z9 : (⟨#[109, 105, 110]⟩ : ByteArray).size = 3 := rfl;have z10 : (⟨#[40]⟩ : ByteArray).size = 1 := rfl;have z11 : (⟨#[44]⟩ : ByteArray).size = 1 := rfl;have z12 : (⟨#[41]⟩ : ByteArray).size = 1 := rfl;have z13 : (⟨#[109, 97, 120]⟩ : ByteArray).size = 3 := rfl;have z14 : (⟨#[105, 102]⟩ : ByteArray).size = 2 := rfl;have z15 : (⟨#[116, 104, 101, 110]⟩ : ByteArray).size = 4 := rfl;have z16 : (⟨#[101, 108, 115, 101]⟩ : ByteArray).size = 4 := rfl;clear he he' how hp;have hc : k = 1 \/ k = 2 \/ k = 3 \/ k = 4 \/ k = 5 \/ k = 6 \/ k = 7 \/ k = 8 \/ k = 9 \/ k = 10 \/ k = 11 \/ k = 12 \/ k = 13 := by omega
   rcases hc with rfl | rfl | rfl | rfl | rfl | rfl | rfl | rfl | rfl | rfl | rfl | rfl | rfl
   ·have ex : (Ex.mk 1 n s m kid).txt = _ := txt_mk 1 n s m kid;simp only [reduceIte, Int.reduceEq] at ex;rw [ex];have hm' : m = 0 := by simp [kidsOf] at hm; omega
    subst hm';simp [leastOf, mostOf] at hn0 hn1;have q := mT_len (n := n) (by omega) (by omega);simp only [List.length_append, tksL_len, tksL_nil, sumN];omega
   ·have ex : (Ex.mk 2 n s m kid).txt = _ := txt_mk 2 n s m kid;simp only [reduceIte, Int.reduceEq] at ex;rw [ex];have hm' : m = 0 := by simp [kidsOf] at hm; omega
    subst hm';simp [leastOf, mostOf] at hn0 hn1;have q := hnm rfl;simp only [List.length_append, tksL_len, tksL_nil, sumN];omega
   ·have ex : (Ex.mk 3 n s m kid).txt = _ := txt_mk 3 n s m kid;simp only [reduceIte, Int.reduceEq] at ex;rw [ex];have hm' : m = 0 := by simp [kidsOf] at hm; omega
    subst hm';simp [leastOf, mostOf] at hn0 hn1;have q := hnm rfl;simp only [List.length_append, tksL_len, tksL_nil, sumN];omega
   ·have ex : (Ex.mk 4 n s m kid).txt = _ := txt_mk 4 n s m kid;simp only [reduceIte, Int.reduceEq] at ex;rw [ex];have hm' : m = 1 := by simp [kidsOf] at hm; omega
    subst hm';simp [leastOf, mostOf] at hn0 hn1;have q := mT_len (n := n) (by omega) (by omega);have w0 := wrap_len (kid 0).k (kid 0).txt;have i0 := ih 0 (hkd 0 (by omega));simp only [List.length_append, tksL_len, tksL_nil, sumN];omega
   ·have ex : (Ex.mk 5 n s m kid).txt = _ := txt_mk 5 n s m kid;simp only [reduceIte, Int.reduceEq] at ex;rw [ex];have hm' : m = 1 := by simp [kidsOf] at hm; omega
    subst hm';simp [leastOf, mostOf] at hn0 hn1;have q := hnm rfl;have w0 := wrap_len (kid 0).k (kid 0).txt;have i0 := ih 0 (hkd 0 (by omega));simp only [List.length_append, tksL_len, tksL_nil, sumN];omega
   ·have ex : (Ex.mk 6 n s m kid).txt = _ := txt_mk 6 n s m kid;simp only [reduceIte, Int.reduceEq] at ex;rw [ex];have hm' : m = 1 := by simp [kidsOf] at hm; omega
    subst hm';simp [leastOf, mostOf] at hn0 hn1;have w0 := wrap_len (kid 0).k (kid 0).txt;have i0 := ih 0 (hkd 0 (by omega));simp only [List.length_append, tksL_len, tksL_nil, sumN];omega
   ·have ex : (Ex.mk 7 n s m kid).txt = _ := txt_mk 7 n s m kid;simp only [reduceIte, Int.reduceEq] at ex;rw [ex];have hm' : m = 2 := by simp [kidsOf] at hm; omega
    subst hm';simp [leastOf, mostOf] at hn0 hn1;have w0 := wrap_len (kid 0).k (kid 0).txt;have i0 := ih 0 (hkd 0 (by omega));have w1 := wrap_len (kid 1).k (kid 1).txt;have i1 := ih 1 (hkd 1 (by omega));simp only [List.length_append, tksL_len, tksL_nil, sumN];omega
   ·have ex : (Ex.mk 8 n s m kid).txt = _ := txt_mk 8 n s m kid;simp only [reduceIte, Int.reduceEq] at ex;rw [ex];have hm' : m = 2 := by simp [kidsOf] at hm; omega
    subst hm';simp [leastOf, mostOf] at hn0 hn1;have w0 := wrap_len (kid 0).k (kid 0).txt;have i0 := ih 0 (hkd 0 (by omega));have w1 := wrap_len (kid 1).k (kid 1).txt;have i1 := ih 1 (hkd 1 (by omega));simp only [List.length_append, tksL_len, tksL_nil, sumN];omega
   ·have ex : (Ex.mk 9 n s m kid).txt = _ := txt_mk 9 n s m kid;simp only [reduceIte, Int.reduceEq] at ex;rw [ex];have hm' : m = 1 := by simp [kidsOf] at hm; omega
    subst hm';simp [leastOf, mostOf] at hn0 hn1;have q := iT_len (n := n) (by omega) (by omega);have w0 := wrap_len (kid 0).k (kid 0).txt;have i0 := ih 0 (hkd 0 (by omega));simp only [List.length_append, tksL_len, tksL_nil, sumN];omega
   ·have ex : (Ex.mk 10 n s m kid).txt = _ := txt_mk 10 n s m kid;simp only [reduceIte, Int.reduceEq] at ex;rw [ex];have hm' : m = 1 := by simp [kidsOf] at hm; omega
    subst hm';simp [leastOf, mostOf] at hn0 hn1;have q := iT_len (n := n) (by omega) (by omega);have w0 := wrap_len (kid 0).k (kid 0).txt;have i0 := ih 0 (hkd 0 (by omega));simp only [List.length_append, tksL_len, tksL_nil, sumN];omega
   ·have ex : (Ex.mk 11 n s m kid).txt = _ := txt_mk 11 n s m kid;simp only [reduceIte, Int.reduceEq] at ex;rw [ex];have hm' : m = 2 := by simp [kidsOf] at hm; omega
    subst hm';simp [leastOf, mostOf] at hn0 hn1;have w0 := wrap_len (kid 0).k (kid 0).txt;have i0 := ih 0 (hkd 0 (by omega));have w1 := wrap_len (kid 1).k (kid 1).txt;have i1 := ih 1 (hkd 1 (by omega));simp only [List.length_append, tksL_len, tksL_nil, sumN];omega
   ·have ex : (Ex.mk 12 n s m kid).txt = _ := txt_mk 12 n s m kid;simp only [reduceIte, Int.reduceEq] at ex;rw [ex];have hm' : m = 2 := by simp [kidsOf] at hm; omega
    subst hm';simp [leastOf, mostOf] at hn0 hn1;have w0 := wrap_len (kid 0).k (kid 0).txt;have i0 := ih 0 (hkd 0 (by omega));have w1 := wrap_len (kid 1).k (kid 1).txt;have i1 := ih 1 (hkd 1 (by omega));simp only [List.length_append, tksL_len, tksL_nil, sumN];omega
   ·have ex : (Ex.mk 13 n s m kid).txt = _ := txt_mk 13 n s m kid;simp only [reduceIte, Int.reduceEq] at ex;rw [ex];have hm' : m = 4 := by simp [kidsOf] at hm; omega
    subst hm';simp [leastOf, mostOf] at hn0 hn1;have q := ts_len (t := n.toNat) (by omega);have w0 := wrap_len (kid 0).k (kid 0).txt;have i0 := ih 0 (hkd 0 (by omega));have w1 := wrap_len (kid 1).k (kid 1).txt;have i1 := ih 1 (hkd 1 (by omega));have w2 := wrap_len (kid 2).k (kid 2).txt;have i2 := ih 2 (hkd 2 (by omega));have w3 := wrap_len (kid 3).k (kid 3).txt;have i3 := ih 3 (hkd 3 (by omega));simp only [List.length_append, tksL_len, tksL_nil, sumN];omega
end Go.Proofs.YtmlpedgcpffpnaaGreatDoor
