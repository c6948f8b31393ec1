/-
  Promise A3 (printing): what money is printed as; the walk of money.Print: at every int it returns that text, or the error, where the library's table of powers of ten lies as the program's text lays it.
-/
import Derived.Test.YtmlpedgcpffpnaaGreatDoorKQK
import Derived.Test.YtmlpedgcpffpnaaGreatDoorKQ1
import Derived.Lib.ItoaLen
import Derived.Lib.SmallJoins
import Derived.Test.YtmlpedgcpffpnaaGreatDoorKZ0
import Derived.Test.YtmlpedgcpffpnaaGreatDoorKQP
import Derived.Lib.Builder
import Derived.Lib.FrozenHead
import Derived.Shelf.Strings.BuilderK
import Derived.Deep.RegionWith
import Derived.Test.YtmlpedgcpffpnaaGreatDoorKQM
set_option linter.unusedSimpArgs false
set_option maxRecDepth 100000
set_option maxHeartbeats 8000000
namespace Go.Proofs.YtmlpedgcpffpnaaGreatDoor.Mny
open Go.RowKit
def Tab (w : World) : Prop := Lib.TabIs Tryz.prog w "internal/strconv.uint64pow10" .u64 Lib.pow10Tab
theorem tab_global : Tryz.prog.globalNamed "internal/strconv.uint64pow10" = some 5 := by kernel_rfl
theorem Tab.below {w w' : World} (h : Tab w) (hb : Below w.heap.size w w') : Tab w' := Joins.tab_stays tab_global h hb (Nat.le_refl _)
theorem below_grow (w : World) (k : Nat) (os : Array Obj) : Below w.heap.size w (Sort.grow (w.drewN k) os) :=
 ⟨rfl, rfl, rfl, by rw [Sort.size_grow]; exact Nat.le_add_right _ _, fun i hi => by
  show (w.heap ++ os)[i]? = w.heap[i]?
  rw [Array.getElem?_append_left hi]⟩
theorem itoa_any (n : Int) (h0 : -9223372036854775808 <= n) (h1 : n <= 9223372036854775807) (w : World) (ht : Tab w) :
 Calls Tryz.prog 115 #[.int .i64 n] w fun e w' => ∃ s : ByteArray, e = .returned (.string s) /\ Hid (s.data.toList = Lib.itoa n) /\ s.size <= 21 /\ Below w.heap.size w w' := by
 refine (sh_strconv_Itoa n h0 h1 w ht).mono ?_;rintro e w' ⟨rfl, k, os, rfl⟩;refine ⟨_, rfl, by simp [Hid], ?_, below_grow w k os⟩;have := Lib.itoa_length_le n h0 h1
 simpa [ByteArray.size] using this
def dig (n : Nat) : UInt8 := UInt8.ofNat (48 + n)
def printL (n : Int) : List UInt8 :=
 (if n < 0 then [45] else []) ++ Lib.decDigits (n.natAbs / 100) ++ [46] ++ [dig (n.natAbs / 10 % 10), dig (n.natAbs % 10)]
theorem two_digits (x : Nat) (h : x < 100) : (Lib.decDigits (100 + x)).drop 1 = [dig (x / 10), dig (x % 10)] := by
 rw [Lib.decDigits, dif_neg (by omega), Lib.decDigits, dif_neg (by omega), Lib.decDigits, dif_pos (by omega)];have h1 : (100 + x) / 10 % 10 = x / 10 := by omega
 have h2 : (100 + x) % 10 = x % 10 := by omega
 simp [dig, h1, h2]
theorem ba_ext {s t : ByteArray} (h : s.data.toList = t.data.toList) : s = t := by
 cases s with | mk a => cases t with | mk b => exact congrArg ByteArray.mk (Array.ext' h)
theorem itoa_nat (m : Nat) : Lib.itoa (m : Int) = Lib.decDigits m := by
 unfold Lib.itoa;rw [if_neg (by omega)];rfl
theorem size_toList (s : ByteArray) : s.size = s.data.toList.length := Array.length_toList.symm
theorem ba_append (a b : ByteArray) : (a ++ b).data.toList = a.data.toList ++ b.data.toList := by simp [ByteArray.data_append]
theorem ba_drop (s : ByteArray) (k : Nat) : (s.extract k s.size).data.toList = s.data.toList.drop k := by
 rw [ByteArray.data_extract, Array.toList_extract, List.extract_eq_take_drop, size_toList, <- List.length_drop, List.take_length]
theorem size_three {s : ByteArray} {x : Nat} (h : s.data.toList = Lib.itoa (100 + (x : Int))) (hx : x < 100) : s.size = 3 /\ s.data.toList.drop 1 = [dig (x / 10), dig (x % 10)] := by
 rw [show (100 + (x : Int)) = ((100 + x : Nat) : Int) from by omega, itoa_nat] at h;have h2 := two_digits x hx;rw [<- h] at h2;refine ⟨?_, h2⟩;have := congrArg List.length h2;simp at this;have h3 : Lib.decDigits (100 + x) ≠ [] := by
  rw [Lib.decDigits, dif_neg (by omega)];simp
 rw [size_toList];have : s.data.toList.length ≠ 0 := by rw [h]; simpa using h3
 simp at *;omega
theorem print_neg (m : Nat) (w : World) (hm : 1 <= m) (hm1 : m <= 1000000000000) (ht : Tab w) :
 Calls Tryz.prog 150 #[.int .i64 (-(m : Int))] w fun e w' => ∃ s : ByteArray, e = .returned (.tuple #[.string s, .int .i64 0]) /\ s.data.toList = printL (-(m : Int)) /\ Below w.heap.size w w' := by
 have hB : monB (-(m : Int)) = true := decide_eq_true ⟨by omega, by omega⟩;have HT : Hid (Tab w) := ht;have HP : Hid (printL (-(m : Int)) = [45] ++ Lib.decDigits (m / 100) ++ [46] ++ [dig (m % 100 / 10), dig (m % 100 % 10)]) := by
  unfold Hid printL;rw [if_pos (by omega)];have e1 : (-(m : Int)).natAbs = m := by omega
  have e2 : m % 100 / 10 = m / 10 % 10 := by omega
  have e3 : m % 100 % 10 = m % 10 := by omega
  rw [e1, e2, e3]
 clear ht
 go_enter Tryz.func150, Tryz.ntmps150
 go_wp2_with (go_at_call 138; refine (isMoney_any _ _).mono ?_; rintro e w' ⟨rfl, rfl⟩)
 refine (itoa_any _ (by omega) (by omega) _ HT.out).mono ?_;rintro e w1 ⟨s1, rfl, HS1, hs1, hb1⟩;have HT1 : Hid (Tab w1) := HT.out.below hb1;have HB1 : Hid (Below w'.heap.size w' w1) := hb1;clear hb1 hs1;have hsz := size_three (x := m % 100) HS1.out (Nat.mod_lt _ (by decide));have HD1 : Hid (s1.data.toList.drop 1 = [dig (m % 100 / 10), dig (m % 100 % 10)]) := hsz.2;have hs1 : 3 <= s1.size := by omega
 have hs1' : s1.size <= 3 := by omega
 clear hsz;go_wp2_with fail
 refine (itoa_any _ (by omega) (by omega) _ HT1.out).mono ?_;rintro e w2 ⟨s2, rfl, HS2, hs2, hb2⟩;have HB2 : Hid (Below w'.heap.size w' w2) := HB1.out.trans (hb2.mono HB1.out.size);clear hb2;go_wp2_with fail
 go_ret2
 refine ⟨_, rfl, ?_, HB2.out⟩;rw [ba_append, ba_append, ba_append, ba_drop, HS2.out, HD1.out, HP.out];rw [show ((m : Int) / 100) = ((m / 100 : Nat) : Int) from by omega, itoa_nat]
theorem print_pos (m : Nat) (w : World) (hm1 : m <= 1000000000000) (ht : Tab w) :
 Calls Tryz.prog 150 #[.int .i64 (m : Int)] w fun e w' => ∃ s : ByteArray, e = .returned (.tuple #[.string s, .int .i64 0]) /\ s.data.toList = printL (m : Int) /\ Below w.heap.size w w' := by
 have hB : monB (m : Int) = true := decide_eq_true ⟨by omega, by omega⟩;have HT : Hid (Tab w) := ht;have HP : Hid (printL (m : Int) = [] ++ Lib.decDigits (m / 100) ++ [46] ++ [dig (m % 100 / 10), dig (m % 100 % 10)]) := by
  unfold Hid printL;rw [if_neg (by omega)];have e2 : m % 100 / 10 = m / 10 % 10 := by omega
  have e3 : m % 100 % 10 = m % 10 := by omega
  rw [Int.natAbs_natCast, e2, e3]
 clear ht
 go_enter Tryz.func150, Tryz.ntmps150
 go_wp2_with (go_at_call 138; refine (isMoney_any _ _).mono ?_; rintro e w' ⟨rfl, rfl⟩)
 refine (itoa_any _ (by omega) (by omega) _ HT.out).mono ?_;rintro e w1 ⟨s1, rfl, HS1, hs1, hb1⟩;have HT1 : Hid (Tab w1) := HT.out.below hb1;have HB1 : Hid (Below w'.heap.size w' w1) := hb1;clear hb1 hs1;have hsz := size_three (x := m % 100) HS1.out (Nat.mod_lt _ (by decide));have HD1 : Hid (s1.data.toList.drop 1 = [dig (m % 100 / 10), dig (m % 100 % 10)]) := hsz.2;have hs1 : 3 <= s1.size := by omega
 have hs1' : s1.size <= 3 := by omega
 clear hsz;go_wp2_with fail
 refine (itoa_any _ (by omega) (by omega) _ HT1.out).mono ?_;rintro e w2 ⟨s2, rfl, HS2, hs2, hb2⟩;have HB2 : Hid (Below w'.heap.size w' w2) := HB1.out.trans (hb2.mono HB1.out.size);clear hb2;go_wp2_with fail
 go_ret2
 refine ⟨_, rfl, ?_, HB2.out⟩;rw [ba_append, ba_append, ba_append, ba_drop, HS2.out, HD1.out, HP.out];rw [show ((m : Int) / 100) = ((m / 100 : Nat) : Int) from by omega, itoa_nat]
theorem print_ok (n : Int) (w : World) (h : monB n = true) (ht : Tab w) :
 Calls Tryz.prog 150 #[.int .i64 n] w fun e w' => ∃ s : ByteArray, e = .returned (.tuple #[.string s, .int .i64 0]) /\ s.data.toList = printL n /\ Below w.heap.size w w' := by
 have hn : -1000000000000 <= n /\ n <= 1000000000000 := of_decide_eq_true h
 by_cases h0 : n < 0
 ·have e : n = -((n.natAbs : Nat) : Int) := by omega
  rw [e];exact print_neg n.natAbs w (by omega) (by omega) ht
 ·have e : n = ((n.toNat : Nat) : Int) := by omega
  rw [e];exact print_pos n.toNat w (by omega) ht
end Go.Proofs.YtmlpedgcpffpnaaGreatDoor.Mny
namespace Go.Proofs.YtmlpedgcpffpnaaGreatDoor
open Go.RowKit
theorem bld_size : (Tryz.prog.info? 147).map (·.size) = some 2 := by kernel_rfl
theorem bld_lies : liesAt Tryz.prog Tryz.prog.depth 149 (2 / Tryz.prog.cellsOf 149) 0 147 1 = true := by kernel_rfl
theorem u8_info : (Tryz.prog.info? 5).map (fun i => (i.zero, i.size, i.bytes)) = some (some (.int .u8 0), 1, 1) := by kernel_rfl
theorem cc_used (b : Nat) (w : World) (h0 : w.cell? ⟨b, 0, none⟩ = some (.pointer (some ⟨b, 0, none⟩))) :
 Calls Tryz.prog 118 #[.pointer (some ⟨b, 0, none⟩)] w fun e w' => e = .returned (.tuple #[]) /\ w' = w := by
 obtain ⟨j, hj, _⟩ := Option.map_eq_some_iff.1 bld_size
 go_enter Tryz.func118, Tryz.ntmps118
 go_wp2
 rw [Lib.run_neq_ptr_same w _ Tryz.underlying145 hj]
 go_wp2
 go_end0
 exact ⟨rfl, rfl⟩
theorem cc_fresh (b : Nat) (w : World) (h0 : w.cell? ⟨b, 0, none⟩ = some (.pointer none)) (hsh : w.shape? b = some (149, 2)) (hfz : w.frozen? ⟨b, 0, none⟩ = false) :
 Calls Tryz.prog 118 #[.pointer (some ⟨b, 0, none⟩)] w fun e w' => e = .returned (.tuple #[]) /\ w' = w.setCell ⟨b, 0, none⟩ (.pointer (some ⟨b, 0, none⟩)) := by
 obtain ⟨j, hj, hjs⟩ := Option.map_eq_some_iff.1 bld_size
 go_enter Tryz.func118, Tryz.ntmps118
 go_wp2
 rw [Lib.run_to_unsafe w ⟨b, 0, none⟩ Tryz.underlying145 Tryz.underlying203 hj (by rw [hjs]; decide) hsh (Nat.zero_lt_succ 1)];simp only [Result.andThen];rw [Oper.upon_value]
 go_wp2
 rw [run_callFunc_extern Tryz.func152 (by kernel_rfl) (by kernel_rfl) (by kernel_rfl) (e := Extern.AbiNoEscape.same) (by kernel_rfl)];rw [Lib.run_noEscape];simp only [Result.andThen];rw [Oper.upon_value]
 go_wp2
 rw [Lib.run_from_unsafe w ⟨b, 0, none⟩ Tryz.underlying203 Tryz.underlying145 hj hsh bld_lies];simp only [Result.andThen];rw [Oper.upon_value]
 go_wp2
 go_end0
 exact ⟨rfl, rfl⟩
def Bld (w : World) (B b : Nat) (l : List UInt8) : Prop := Lib.IsBuilderF 149 5 B b (Lib.byteCells l) w
theorem Bld.fresh (w : World) : Bld (w.alloc (.cells #[.pointer none, .slice none 0 0] 149)) w.heap.size w.heap.size [] :=
 .inl ⟨Nat.le_refl _, .slice none 0 0, (MapKept.heap_alloc w _).1, World.ownsRowF_nil _ _ _ _, by simp [Value.ownBlock]⟩
theorem Bld.lt {w : World} {B b : Nat} {l : List UInt8} (h : Bld w B b l) : b < w.heap.size := by
 rcases h with ⟨_, v, h2, _⟩ | ⟨_, v, h2, _⟩ <;> exact (Array.getElem?_eq_some_iff.1 h2).1
theorem Bld.below {w w' : World} {B b : Nat} {l : List UInt8} (h : Bld w B b l) (hb : Below w.heap.size w w') : Bld w' B b l := by
 have hg : w.grownBy w' (none : Option Nat) := ⟨hb.os, hb.tape, hb.output, hb.size, fun k hk _ => hb.block k hk⟩;have key : ∀ p, Lib.BuilderAtF 149 5 B b p (Lib.byteCells l) w -> Lib.BuilderAtF 149 5 B b p (Lib.byteCells l) w' := by
  rintro p ⟨h1, v, h2, h3, h4⟩;have hlt : b < w.heap.size := (Array.getElem?_eq_some_iff.1 h2).1;refine ⟨h1, v, by rw [hb.block b hlt]; exact h2, h3.kept hg ?_, h4⟩
  cases v.ownBlock with
  | none => exact .inl rfl
  | some k => exact .inr (Option.some_ne_none k)
 rcases h with h | h
 ·exact .inl (key _ h)
 ·exact .inr (key _ h)
theorem cc_any (B b : Nat) (l : List UInt8) (w : World) (h : Bld w B b l) :
 Calls Tryz.prog 118 #[.pointer (some ⟨b, 0, none⟩)] w fun e w' => e = .returned (.tuple #[]) /\ Lib.BuilderAtF 149 5 B b (.pointer (some ⟨b, 0, none⟩)) (Lib.byteCells l) w' /\ Below B w w' /\ Lib.OthersKept 5 (some b) w w' := by
 rcases h with h | h
 ·refine (cc_fresh b w h.cell0 h.shape h.frozen0).mono ?_;rintro e w' ⟨rfl, rfl⟩;exact ⟨rfl, h.used _, (Below.refl B w).setCell (p := ⟨b, 0, none⟩) h.1 _, (Lib.OthersKept.refl _ _ w).setCell ⟨b, 0, none⟩ rfl _⟩
 ·refine (cc_used b w h.cell0).mono ?_;rintro e w' ⟨rfl, rfl⟩;exact ⟨rfl, h, Below.refl B _, Lib.OthersKept.refl _ _ _⟩
theorem blk_lt {w : World} {b : Nat} {o : Obj} (h : w.heap[b]? = some o) : b < w.heap.size := (Array.getElem?_eq_some_iff.1 h).1
theorem write_any (B b : Nat) (l : List UInt8) (s : ByteArray) (w : World) (h : Bld w B b l) (hl : l.length + s.size <= 1000000000) (hBw : B <= w.heap.size) :
 Calls Tryz.prog 80 #[.pointer (some ⟨b, 0, none⟩), .string s] w fun e w' => e = .returned (.tuple #[.int .i64 s.size, .nilIface]) /\ Bld w' B b (l ++ s.data.toList) /\ Below B w w' /\ Lib.OthersKept 5 (some b) w w' := by
 obtain ⟨i0, hi, hz0, hz1, hz2⟩ := info_parts u8_info;have HBL := Hd (Lib.byteCells_length l)
 go_enter Tryz.func80, Tryz.ntmps80
 go_wp2_with (go_at_call 118; refine (cc_any B b l _ h).mono ?_)
 rintro e w1 ⟨rfl, h1, hb1, hk1⟩;obtain ⟨hB, v, hbk, hown, hne⟩ := h1;have c0 : w1.cell? ⟨b, 0, none⟩ = some (.pointer (some ⟨b, 0, none⟩)) := by rw [Lib.cell_of_heap hbk]; rfl
 have c1 : w1.cell? ⟨b, 1, none⟩ = some v := by rw [Lib.cell_of_heap hbk]; rfl
 go_wp2_with (at_builtin; refine Lib.wpList_append_own_stringF _ rfl _ _ 89 9 rfl B 5 i0 Tryz.underlying89 Tryz.underlying9 hi hz0 hz1 hz2 _ _ _ rfl hown s rfl ?c3 ?c4 ?c5 ?_)
 case c3 => have := HBL.out; unfold maxLen; omega
 case c4 => have := HBL.out; omega
 case c5 => have := hb1.size; omega
 intro v' w2 hown' hgrow _;have hb2 : w2.heap[b]? = some (.cells #[.pointer (some ⟨b, 0, none⟩), v] 149 (0, 0)) := (hgrow.block b (blk_lt hbk) (fun e => hne e.symm)).trans hbk;have d0 : w2.cell? ⟨b, 0, none⟩ = some (.pointer (some ⟨b, 0, none⟩)) := by rw [Lib.cell_of_heap hb2]; rfl
 have d1 : w2.cell? ⟨b, 1, none⟩ = some v := by rw [Lib.cell_of_heap hb2]; rfl
 have f1 : w2.frozen? ⟨b, 1, none⟩ = false := Lib.frozen_of_heap hb2 1;obtain ⟨ao, n', cap, rfl⟩ : ∃ ao n' cap, v' = .slice ao n' cap := by
  rcases hown'.2 with ⟨hv, _⟩ | ⟨g, cap, cur, fz, hv, _⟩
  ·exact ⟨_, _, _, hv⟩
  ·exact ⟨_, _, _, hv⟩
 go_wp2
 go_ret2
 refine ⟨rfl, .inr ?_, (hb1.grown hgrow (by have := hb1.size; omega) (fun k hk => (hown.lt k hk).1)).setCell (p := ⟨b, 1, none⟩) hB _, (hk1.grown hgrow (Lib.ownsRowF_kind hown)).setCell ⟨b, 1, none⟩ rfl _⟩;rw [Lib.byteCells_append];exact Lib.BuilderAtF.put (T := 149) (e := 5) hB hb2 (bs' := Lib.byteCells l ++ Lib.strCells s) (by simpa [Lib.strCells_length] using hown') (by decide)
theorem byte_any (B b : Nat) (l : List UInt8) (c : UInt8) (w : World) (h : Bld w B b l) (hl : l.length <= 1000000000) (hBw : B <= w.heap.size) :
 Calls Tryz.prog 111 #[.pointer (some ⟨b, 0, none⟩), .int .u8 (c.toNat : Int)] w fun e w' => e = .returned .nilIface /\ Bld w' B b (l ++ [c]) /\ Below B w w' /\ Lib.OthersKept 5 (some b) w w' := by
 obtain ⟨i0, hi, hz0, hz1, hz2⟩ := info_parts u8_info;have HBL := Hd (Lib.byteCells_length l);have hbc : Lib.byteCells (l ++ [c]) = Lib.byteCells l ++ [.int .u8 (c.toNat : Int)] := by simp [Lib.byteCells]
 generalize (c.toNat : Int) = cc at *
 go_enter Tryz.func111, Tryz.ntmps111
 go_wp2_with (go_at_call 118; refine (cc_any B b l _ h).mono ?_)
 rintro e w1 ⟨rfl, h1, hb1, hk1⟩;obtain ⟨hB, v, hbk, hown, hne⟩ := h1;have c0 : w1.cell? ⟨b, 0, none⟩ = some (.pointer (some ⟨b, 0, none⟩)) := by rw [Lib.cell_of_heap hbk]; rfl
 have c1 : w1.cell? ⟨b, 1, none⟩ = some v := by rw [Lib.cell_of_heap hbk]; rfl
 go_wp2_with (at_builtin; refine wpList_append_ownF _ rfl _ _ 89 rfl B 5 i0 (.int .u8 0) 1 1 Tryz.underlying89 hi hz0 hz1 hz2 rfl (by decide) _ _ _ rfl (hown.alloc _) ⟨w1.heap.size, 0, none⟩ 1 1 [.int .u8 cc] rfl rfl ?c1 ?c2 ?c3 ?c4 ?c5 ?_)
 case c1 =>
  intro j u hj
  match j, hj with
  | 0, hj => simp at hj; subst hj; simp [Addr.add]
 case c2 => intro u hu; simp at hu; subst hu; rfl
 case c3 => have := HBL.out; unfold maxLen; omega
 case c4 => have := HBL.out; omega
 case c5 => have := hb1.size; simp; omega
 intro v' w2 hown' hgrow _;have hlt := blk_lt hbk;have hb2 : w2.heap[b]? = some (.cells #[.pointer (some ⟨b, 0, none⟩), v] 149 (0, 0)) := by
  rw [hgrow.block b (by simp; omega) (fun e => hne e.symm), Lib.alloc_old w1 _ b hlt];exact hbk
 have d0 : w2.cell? ⟨b, 0, none⟩ = some (.pointer (some ⟨b, 0, none⟩)) := by rw [Lib.cell_of_heap hb2]; rfl
 have d1 : w2.cell? ⟨b, 1, none⟩ = some v := by rw [Lib.cell_of_heap hb2]; rfl
 have f1 : w2.frozen? ⟨b, 1, none⟩ = false := Lib.frozen_of_heap hb2 1;obtain ⟨ao, n', cap, rfl⟩ : ∃ ao n' cap, v' = .slice ao n' cap := by
  rcases hown'.2 with ⟨hv, _⟩ | ⟨g, cap, cur, fz, hv, _⟩
  ·exact ⟨_, _, _, hv⟩
  ·exact ⟨_, _, _, hv⟩
 go_wp2
 go_ret;refine ⟨rfl, .inr ?_, ((hb1.alloc (by have := hb1.size; omega) _).grown hgrow (by have := hb1.size; simp; omega) (fun k hk => (hown.lt k hk).1)).setCell (p := ⟨b, 1, none⟩) hB _, ((hk1.alloc _).grown hgrow (Lib.ownsRowF_kind (hown.alloc _))).setCell ⟨b, 1, none⟩ rfl _⟩;rw [hbc];exact Lib.BuilderAtF.put (T := 149) (e := 5) hB hb2 (bs' := Lib.byteCells l ++ [.int .u8 cc]) (by simpa using hown') (by decide)
theorem len_any (B b : Nat) (l : List UInt8) (w : World) (h : Bld w B b l) :
 Calls Tryz.prog 81 #[.pointer (some ⟨b, 0, none⟩)] w fun e w' => e = .returned (.int .i64 (l.length : Int)) /\ w' = w := by
 obtain ⟨p, hB, v, hbk, hown, hne⟩ : ∃ p, Lib.BuilderAtF 149 5 B b p (Lib.byteCells l) w := by
  rcases h with h | h
  ·exact ⟨_, h⟩
  ·exact ⟨_, h⟩
 have c1 : w.cell? ⟨b, 1, none⟩ = some v := by rw [Lib.cell_of_heap hbk]; rfl
 rw [Lib.byteCells_length] at hown;obtain ⟨ao, cap, rfl⟩ : ∃ ao cap, v = .slice ao l.length cap := by
  rcases hown.2 with ⟨hv, h0⟩ | ⟨g, cap, cur, fz, hv, _⟩
  ·rw [h0]; exact ⟨_, _, hv⟩
  ·exact ⟨_, _, hv⟩
 clear h hown hne hbk
 go_enter Tryz.func81, Tryz.ntmps81
 go_wp2
 go_ret;exact ⟨rfl, rfl⟩
theorem u8_cells : Tryz.prog.cellsOf 5 = 1 := by kernel_rfl
theorem string_some (B b : Nat) (l : List UInt8) (w : World) (h : Bld w B b l) (h0 : l ≠ []) :
 Calls Tryz.prog 82 #[.pointer (some ⟨b, 0, none⟩)] w fun e w' => e = .returned (.string ⟨l.toArray⟩) /\ Below B w w' := by
 obtain ⟨p, hB, v, hbk, hown, hne⟩ : ∃ p, Lib.BuilderAtF 149 5 B b p (Lib.byteCells l) w := by
  rcases h with h | h
  ·exact ⟨_, h⟩
  ·exact ⟨_, h⟩
 have hl0 : l.length ≠ 0 := by simpa using h0
 rw [Lib.byteCells_length] at hown;obtain ⟨g, cap, cur, fz, rfl, hbg, hg, hfz, hnc, hcm, hcs, htake⟩ : ∃ g cap cur fz, v = .slice (some ⟨g, 0, none⟩) l.length cap /\ B <= g /\ w.heap[g]? = some (.cells cur 5 fz) /\ fz.2 <= l.length * 1 /\ l.length <= cap /\ cap <= maxLen /\ cur.size = cap * 1 /\ cur.toList.take (l.length * 1) = Lib.byteCells l := by
  rcases hown.2 with ⟨_, hz⟩ | ⟨g, cap, cur, fz, hv, r⟩
  ·exact absurd hz hl0
  ·exact ⟨g, cap, cur, fz, hv, r⟩
 have c1 : w.drew.cell? ⟨b, 1, none⟩ = some (.slice (some ⟨g, 0, none⟩) l.length cap) := by
  have : w.drew.heap[b]? = some (.cells #[p, .slice (some ⟨g, 0, none⟩) l.length cap] 149 (0, 0)) := hbk;rw [Lib.cell_of_heap this]; rfl
 have hSD : (Builtin.unsafeSliceData_ #[89] 186 #[.slice (some ⟨g, 0, none⟩) l.length cap]).run Tryz.prog w.drew = .ok (.pointer (some ⟨g, 0, none⟩)) w.drew :=
  Lib.run_unsafeSliceData_row _ _ _ _ _ _ (by omega)
 have hUS : (Builtin.unsafeString_ #[186, 3] 9 #[.pointer (some ⟨g, 0, none⟩), .int .i64 l.length]).run Tryz.prog w.drew = .ok (.string ⟨l.toArray⟩) (w.drew.freeze ⟨g, 0, none⟩ l.length) := by
  refine Lib.run_unsafeString_row w.drew 186 3 9 5 Tryz.underlying186 u8_cells g cur.size (by have hg' : w.drew.heap[g]? = some (.cells cur 5 fz) := hg; simp [World.shape?, hg']) l h0 (by omega) (by unfold maxLen at hcm; omega) ?_;intro j x hx;have := hown.cells (g := g) rfl j (.int .u8 x.toNat) (by simp [Lib.byteCells, hx]);exact this
 have HBF := Hd (Lib.below_freeze (Below.drew (Below.refl B w)) (p := ⟨g, 0, none⟩) hbg l.length);clear h hown hne hbk hg htake hcs
 go_enter Tryz.func82, Tryz.ntmps82
 go_wp2
 go_region
 all_goals (go_wp2; go_ret; exact ⟨rfl, HBF.out⟩)
def tkL (l : List UInt8) : List UInt8 := l ++ [32]
def tksL : List ByteArray -> List UInt8
 | [] => []
 | s :: r => tkL s.data.toList ++ tksL r
theorem tksL_append : ∀ (a b : List ByteArray), tksL (a ++ b) = tksL a ++ tksL b
 | [], _ => rfl
 | s :: r, b => by rw [List.cons_append, tksL, tksL, tksL_append r b, List.append_assoc]
structure PtS (W0 w : World) (b : Nat) (l : List UInt8) : Prop where
 bel : Below W0.heap.size W0 w
 bld : Bld w W0.heap.size b l
theorem PtS.below {W0 w w' : World} {b : Nat} {l : List UInt8} (h : PtS W0 w b l) (hb : Below w.heap.size w w') : PtS W0 w' b l := ⟨h.bel.trans (hb.mono h.bel.size), h.bld.below hb⟩
def PtR (W0 w : World) (b : Nat) (l out : List UInt8) (e : Ending) (w' : World) : Prop := (∃ v, e = .returned v) /\ PtS W0 w' b (l ++ out) /\ Lib.OthersKept 5 (some b) w w'
def Obx (w : World) (g : Nat) (vs : List Value) (T : TypeId) : Prop := w.heap[g]? = some (.cells vs.toArray T (0, 0))
theorem Obx.made (w : World) (vs : List Value) (T : TypeId) : Obx (w.alloc (.cells vs.toArray T)) w.heap.size vs T := (MapKept.heap_alloc w _).1
theorem Obx.made_at (w : World) {g : Nat} (hg : g = w.heap.size) (vs : List Value) (T : TypeId) : Obx (w.alloc (.cells vs.toArray T)) g vs T := by rw [hg]; exact Obx.made w vs T
theorem Obx.lt {w : World} {g : Nat} {vs : List Value} {T : TypeId} (h : Obx w g vs T) : g < w.heap.size := blk_lt h
theorem Obx.below {w w' : World} {g : Nat} {vs : List Value} {T : TypeId} (h : Obx w g vs T) (hb : Below w.heap.size w w') : Obx w' g vs T := (hb.block g h.lt).trans h
theorem Obx.kept {w w' : World} {g b : Nat} {vs : List Value} {T : TypeId} (h : Obx w g vs T) (hk : Lib.OthersKept 5 (some b) w w') (hb : g ≠ b) (hT : T ≠ 5) : Obx w' g vs T :=
 hk g _ h (by intro e; cases e; exact hb rfl) (by intro c fz e; injection e with _ e _; exact hT e)
theorem Obx.cell {w : World} {g : Nat} {vs : List Value} {T : TypeId} (h : Obx w g vs T) (j : Nat) : w.cell? ⟨g, j, none⟩ = vs[j]? := by rw [Lib.cell_of_heap h]; simp
theorem kept_below {w w' : World} (b : Option Nat) (hb : Below w.heap.size w w') : Lib.OthersKept 5 b w w' := fun k _ hk _ _ => (hb.block k (blk_lt hk)).trans hk
theorem tokens_any (W0 : World) (b g n c : Nat) (ts : List ByteArray) (l : List UInt8) (w : World) (hn : ts.length = n) (h : PtS W0 w b l) (hr : Obx w g (ts.map Value.string) 9) (hg : g ≠ b) (hl : l.length + (tksL ts).length <= 1000000000) :
 Calls Tryz.prog 78 #[.pointer (some ⟨b, 0, none⟩), .slice (some ⟨g, 0, none⟩) n c] w fun e w' => PtR W0 w b l (tksL ts) e w' := by
 have HH := Hd h;have HRW := Hd hr;have HN := Hd hn;have HLE := Hd hl;have hB0 := h.bel.size;have hn9 : n <= 1000000000 := by
  have : ∀ r : List ByteArray, r.length <= (tksL r).length := fun r => by
   induction r with
   | nil => exact Nat.le_refl _
   | cons s r ih => simp [tksL, tkL]; omega
  have := this ts;omega
 clear h hr hn hl
 go_enter Tryz.func78, Tryz.ntmps78
 go_wp2_with fail
 go_loopw [8] (fun i wr => ∃ j : Nat, j <= n /\ i = .int .i64 j /\ PtS W0 wr b (l ++ tksL (ts.take j)) /\ Lib.OthersKept 5 (some b) w wr) (fun i _ => n - (intOf i).toNat)
 case atStart => exact ⟨0, Nat.zero_le _, rfl, by simpa [tksL] using HH.out, Lib.OthersKept.refl _ _ _⟩
 case round =>
  obtain ⟨j, hj, rfl, hp, hk⟩ := hrel;have HP := Hd hp;have HK := Hd hk;clear hp hk
  by_cases hlt : j < n
  ·have hlt' : (j : Int) < (n : Int) := by omega
   have hjl : j < ts.length := by rw [HN.out]; exact hlt
   obtain ⟨s, hs⟩ : ∃ s, ts[j]? = some s := ⟨ts[j], List.getElem?_eq_getElem hjl⟩;have x0 : wr.cell? ⟨g, j, none⟩ = some (.string s) := by
    rw [(HRW.out.kept HK.out hg (by decide)).cell j, List.getElem?_map, hs];rfl
   have htk : tksL (ts.take (j + 1)) = tksL (ts.take j) ++ (s.data.toList ++ [32]) := by
    rw [List.take_add_one, hs, tksL_append];simp [tksL, tkL]
   have hlen : l.length + (tksL (ts.take (j + 1))).length <= 1000000000 := by
    have h1 : tksL ts = tksL (ts.take (j + 1)) ++ tksL (ts.drop (j + 1)) := by rw [<- tksL_append, List.take_append_drop]
    have := HLE.out;rw [h1, List.length_append] at this;omega
   rw [htk, List.length_append, List.length_append] at hlen;have hss : s.data.toList.length = s.size := Array.length_toList;simp only [List.length_cons, List.length_nil] at hlen;have HTK := Hd htk;have HLN : Hid ((l ++ tksL (ts.take j)).length + s.size <= 999999999) := by unfold Hid; rw [List.length_append]; omega
   have HSS := Hd hss;clear hs htk hlen hss hjl;go_wp2_with fail
   refine (write_any W0.heap.size b _ s wr HP.out.bld (by have := HLN.out; omega) HP.out.bel.size).mono ?_;rintro e w1 ⟨rfl, hb1, hbl1, hk1⟩;have HP1 : Hid (PtS W0 w1 b (l ++ tksL (ts.take j) ++ s.data.toList)) := ⟨HP.out.bel.trans hbl1, hb1⟩;have HK1 := Hd (HK.out.trans hk1);clear hb1 hbl1 hk1 x0;go_wp2_with fail
   refine (byte_any W0.heap.size b _ 32 w1 HP1.out.bld (by have := HLN.out; have := HSS.out; rw [List.length_append]; omega) HP1.out.bel.size).mono ?_;rintro e w2 ⟨rfl, hb2, hbl2, hk2⟩;have HP2 : Hid (PtS W0 w2 b (l ++ tksL (ts.take (j + 1)))) := by
    refine ⟨HP1.out.bel.trans hbl2, ?_⟩;rw [HTK.out, <- List.append_assoc, <- List.append_assoc];exact hb2
   have HK2 := Hd (HK1.out.trans hk2);clear hb2 hbl2 hk2;go_wp2_with fail
   go_roundw
   case rel => exact ⟨j + 1, by omega, by go_num, HP2.out, HK2.out⟩
   case measure => simp [intOf]; omega
  ·have hjn : j = n := by omega
   have hltB : decide ((j : Int) < (n : Int)) = false := dEf (by omega);have HPE : Hid (PtS W0 wr b (l ++ tksL ts)) := by
    have := HP.out;rw [hjn, <- HN.out, List.take_length] at this;exact this
   clear hjn;go_wp2_with fail
   exact ⟨rfl, .tuple #[], by simp [results, Tryz.results78], ⟨_, rfl⟩, HPE.out, HK.out⟩
def mT (n : Int) : ByteArray := ⟨(Mny.printL n).toArray⟩
def iT (n : Int) : ByteArray := ⟨(Lib.itoa n).toArray⟩
def wrapT (k : Int) (t : List UInt8) : List UInt8 := if k = 7 \/ k = 8 \/ k = 9 \/ k = 10 \/ k = 13 then tksL [⟨#[40]⟩] ++ (t ++ tksL [⟨#[41]⟩]) else t
def Ex.txt : Ex -> List UInt8
 | .no => []
 | .mk k n s _ kid =>
   if k = 1 then tksL [mT n] else if k = 2 then tksL [s] else if k = 3 then tksL [⟨#[121, 101, 97, 114]⟩, s]
   else if k = 4 then tksL [mT n, ⟨#[37]⟩, ⟨#[111, 102]⟩] ++ wrapT (kid 0).k (kid 0).txt
   else if k = 5 then tksL [⟨#[116, 97, 98, 108, 101]⟩, s, ⟨#[111, 102]⟩] ++ wrapT (kid 0).k (kid 0).txt
   else if k = 6 then tksL [⟨#[45]⟩] ++ wrapT (kid 0).k (kid 0).txt
   else if k = 7 then wrapT (kid 0).k (kid 0).txt ++ (tksL [⟨#[43]⟩] ++ wrapT (kid 1).k (kid 1).txt)
   else if k = 8 then wrapT (kid 0).k (kid 0).txt ++ (tksL [⟨#[45]⟩] ++ wrapT (kid 1).k (kid 1).txt)
   else if k = 9 then wrapT (kid 0).k (kid 0).txt ++ tksL [⟨#[42]⟩, iT n]
   else if k = 10 then wrapT (kid 0).k (kid 0).txt ++ tksL [⟨#[47]⟩, iT n]
   else if k = 11 then tksL [⟨#[109, 105, 110]⟩, ⟨#[40]⟩] ++ ((kid 0).txt ++ (tksL [⟨#[44]⟩] ++ ((kid 1).txt ++ tksL [⟨#[41]⟩])))
   else if k = 12 then tksL [⟨#[109, 97, 120]⟩, ⟨#[40]⟩] ++ ((kid 0).txt ++ (tksL [⟨#[44]⟩] ++ ((kid 1).txt ++ tksL [⟨#[41]⟩])))
   else if k = 13 then tksL [⟨#[105, 102]⟩] ++ ((wrapT (kid 0).k (kid 0).txt ++ (tksL [tsW n.toNat] ++ wrapT (kid 1).k (kid 1).txt)) ++ (tksL [⟨#[116, 104, 101, 110]⟩] ++ ((kid 2).txt ++ (tksL [⟨#[101, 108, 115, 101]⟩] ++ (kid 3).txt))))
   else []
def CtE (W0 : World) (b : Nat) (x : Ex) : Prop := ∀ (a : Option Addr) (c : Nat) (l : List UInt8) (w : World), KidsAt W0 x a -> PtS W0 w b l -> l.length + x.txt.length <= 1000000000 -> Calls Tryz.prog 79 #[.pointer (some ⟨b, 0, none⟩), .agg #[.int .i64 x.k, .int .i64 x.n, .string x.s, .slice a x.m c]] w fun e w' => PtR W0 w b l x.txt e w'
def CtI (W0 : World) (b : Nat) (x : Ex) : Prop := ∀ (a : Option Addr) (c : Nat) (l : List UInt8) (w : World), KidsAt W0 x a -> PtS W0 w b l -> l.length + (wrapT x.k x.txt).length <= 1000000000 -> Calls Tryz.prog 113 #[.pointer (some ⟨b, 0, none⟩), .agg #[.int .i64 x.k, .int .i64 x.n, .string x.s, .slice a x.m c]] w fun e w' => PtR W0 w b l (wrapT x.k x.txt) e w'
theorem eql7 {k : Int} (h : ¬ (k = 7 \/ k = 8 \/ k = 9 \/ k = 10 \/ k = 13)) : (k == 7) = false /\ (k == 8) = false /\ (k == 9) = false /\ (k == 10) = false /\ (k == 13) = false := by
 refine ⟨?_, ?_, ?_, ?_, ?_⟩ <;> simp <;> omega
theorem par_box (w : World) (x : Ex) (a : Option Addr) (c : Nat) : Obx (w.alloc (.cells #[.int .i64 x.k, .int .i64 x.n, .string x.s, .slice a x.m c] 50)) w.heap.size (exL x a c) 50 := Obx.made w (exL x a c) _
theorem Obx.ex {w : World} {g : Nat} {x : Ex} {a : Option Addr} {c : Nat} (h : Obx w g (exL x a c) 50) : w.cell? ⟨g, 0, none⟩ = some (.int .i64 x.k) /\ w.cell? ⟨g, 1, none⟩ = some (.int .i64 x.n) /\ w.cell? ⟨g, 2, none⟩ = some (.string x.s) /\ w.cell? ⟨g, 3, none⟩ = some (.slice a x.m c) := ⟨h.cell 0, h.cell 1, h.cell 2, h.cell 3⟩
theorem inner_any (W0 : World) (b : Nat) (x : Ex) (hx : CtE W0 b x) : CtI W0 b x := by
 intro a c l w hk hp hl;have HCX := Hd hx;have HKID := Hd hk;clear hx hk;have hB0 := kbelow_box w (.cells #[.int .i64 x.k, .int .i64 x.n, .string x.s, .slice a x.m c] 50);have HX0 := Hd (par_box w x a c);have HP0 := Hd (hp.below hB0);have HK0 := Hd (kept_below (some b) hB0);have hwb : w.heap.size ≠ b := by have := hp.bld.lt; omega
 clear hB0 hp
 by_cases h7 : x.k = 7 \/ x.k = 8 \/ x.k = 9 \/ x.k = 10 \/ x.k = 13
 ·have hwr : wrapT x.k x.txt = tksL [⟨#[40]⟩] ++ (x.txt ++ tksL [⟨#[41]⟩]) := by unfold wrapT; rw [if_pos h7]
  rw [hwr] at hl ⊢;have HLE := Hd hl;clear hl hwr
  rcases h7 with h7 | h7 | h7 | h7 | h7
  ·rw [h7] at HX0 HP0 HK0 ⊢;clear h7
   go_enter Tryz.func113, Tryz.ntmps113
   go_wp2_with fail
   refine (tokens_any W0 b _ 1 1 [⟨#[40]⟩] _ _ rfl (HP0.out.below (kbelow_box _ _)) (Obx.made_at _ (by simp) _ 9) (by have := HP0.out.bld.lt; first | omega | (simp at this; omega)) (by have := HLE.out; (try simp only [List.length_append] at this ⊢); omega)).mono ?_;rintro e w1 ⟨⟨_, rfl⟩, hp, hk⟩;have HP1 := Hd hp;have HK1 := Hd ((HK0.out.alloc _).trans hk);have HX1 := Hd ((HX0.out.below (kbelow_box _ _)).kept hk hwb (by decide));clear hp hk;obtain ⟨x0, x1, x2, x3⟩ := HX1.out.ex;go_wp2_with fail
   refine (HCX.out a c _ w1 HKID.out HP1.out (by have := HLE.out; (try simp only [List.length_append] at this ⊢); omega)).mono ?_;rintro e w2 ⟨⟨_, rfl⟩, hp, hk⟩;have HP2 := Hd hp;have HK2 := Hd (HK1.out.trans hk);have HX2 := Hd (HX1.out.kept hk hwb (by decide));clear hp hk;clear x0 x1 x2 x3;go_wp2_with fail
   refine (tokens_any W0 b _ 1 1 [⟨#[41]⟩] _ _ rfl (HP2.out.below (kbelow_box _ _)) (Obx.made_at _ (by simp) _ 9) (by have := HP2.out.bld.lt; first | omega | (simp at this; omega)) (by have := HLE.out; (try simp only [List.length_append] at this ⊢); omega)).mono ?_;rintro e w3 ⟨⟨_, rfl⟩, hp, hk⟩;have HP3 := Hd hp;have HK3 := Hd ((HK2.out.alloc _).trans hk);have HX3 := Hd ((HX2.out.below (kbelow_box _ _)).kept hk hwb (by decide));clear hp hk;go_wp2_with fail
   exact ⟨rfl, .tuple #[], by simp [results, Tryz.results113], ⟨_, rfl⟩, by have := HP3.out; simpa only [List.append_assoc] using this, HK3.out⟩
  ·rw [h7] at HX0 HP0 HK0 ⊢;clear h7
   go_enter Tryz.func113, Tryz.ntmps113
   go_wp2_with fail
   refine (tokens_any W0 b _ 1 1 [⟨#[40]⟩] _ _ rfl (HP0.out.below (kbelow_box _ _)) (Obx.made_at _ (by simp) _ 9) (by have := HP0.out.bld.lt; first | omega | (simp at this; omega)) (by have := HLE.out; (try simp only [List.length_append] at this ⊢); omega)).mono ?_;rintro e w1 ⟨⟨_, rfl⟩, hp, hk⟩;have HP1 := Hd hp;have HK1 := Hd ((HK0.out.alloc _).trans hk);have HX1 := Hd ((HX0.out.below (kbelow_box _ _)).kept hk hwb (by decide));clear hp hk;obtain ⟨x0, x1, x2, x3⟩ := HX1.out.ex;go_wp2_with fail
   refine (HCX.out a c _ w1 HKID.out HP1.out (by have := HLE.out; (try simp only [List.length_append] at this ⊢); omega)).mono ?_;rintro e w2 ⟨⟨_, rfl⟩, hp, hk⟩;have HP2 := Hd hp;have HK2 := Hd (HK1.out.trans hk);have HX2 := Hd (HX1.out.kept hk hwb (by decide));clear hp hk;clear x0 x1 x2 x3;go_wp2_with fail
   refine (tokens_any W0 b _ 1 1 [⟨#[41]⟩] _ _ rfl (HP2.out.below (kbelow_box _ _)) (Obx.made_at _ (by simp) _ 9) (by have := HP2.out.bld.lt; first | omega | (simp at this; omega)) (by have := HLE.out; (try simp only [List.length_append] at this ⊢); omega)).mono ?_;rintro e w3 ⟨⟨_, rfl⟩, hp, hk⟩;have HP3 := Hd hp;have HK3 := Hd ((HK2.out.alloc _).trans hk);have HX3 := Hd ((HX2.out.below (kbelow_box _ _)).kept hk hwb (by decide));clear hp hk;go_wp2_with fail
   exact ⟨rfl, .tuple #[], by simp [results, Tryz.results113], ⟨_, rfl⟩, by have := HP3.out; simpa only [List.append_assoc] using this, HK3.out⟩
  ·rw [h7] at HX0 HP0 HK0 ⊢;clear h7
   go_enter Tryz.func113, Tryz.ntmps113
   go_wp2_with fail
   refine (tokens_any W0 b _ 1 1 [⟨#[40]⟩] _ _ rfl (HP0.out.below (kbelow_box _ _)) (Obx.made_at _ (by simp) _ 9) (by have := HP0.out.bld.lt; first | omega | (simp at this; omega)) (by have := HLE.out; (try simp only [List.length_append] at this ⊢); omega)).mono ?_;rintro e w1 ⟨⟨_, rfl⟩, hp, hk⟩;have HP1 := Hd hp;have HK1 := Hd ((HK0.out.alloc _).trans hk);have HX1 := Hd ((HX0.out.below (kbelow_box _ _)).kept hk hwb (by decide));clear hp hk;obtain ⟨x0, x1, x2, x3⟩ := HX1.out.ex;go_wp2_with fail
   refine (HCX.out a c _ w1 HKID.out HP1.out (by have := HLE.out; (try simp only [List.length_append] at this ⊢); omega)).mono ?_;rintro e w2 ⟨⟨_, rfl⟩, hp, hk⟩;have HP2 := Hd hp;have HK2 := Hd (HK1.out.trans hk);have HX2 := Hd (HX1.out.kept hk hwb (by decide));clear hp hk;clear x0 x1 x2 x3;go_wp2_with fail
   refine (tokens_any W0 b _ 1 1 [⟨#[41]⟩] _ _ rfl (HP2.out.below (kbelow_box _ _)) (Obx.made_at _ (by simp) _ 9) (by have := HP2.out.bld.lt; first | omega | (simp at this; omega)) (by have := HLE.out; (try simp only [List.length_append] at this ⊢); omega)).mono ?_;rintro e w3 ⟨⟨_, rfl⟩, hp, hk⟩;have HP3 := Hd hp;have HK3 := Hd ((HK2.out.alloc _).trans hk);have HX3 := Hd ((HX2.out.below (kbelow_box _ _)).kept hk hwb (by decide));clear hp hk;go_wp2_with fail
   exact ⟨rfl, .tuple #[], by simp [results, Tryz.results113], ⟨_, rfl⟩, by have := HP3.out; simpa only [List.append_assoc] using this, HK3.out⟩
  ·rw [h7] at HX0 HP0 HK0 ⊢;clear h7
   go_enter Tryz.func113, Tryz.ntmps113
   go_wp2_with fail
   refine (tokens_any W0 b _ 1 1 [⟨#[40]⟩] _ _ rfl (HP0.out.below (kbelow_box _ _)) (Obx.made_at _ (by simp) _ 9) (by have := HP0.out.bld.lt; first | omega | (simp at this; omega)) (by have := HLE.out; (try simp only [List.length_append] at this ⊢); omega)).mono ?_;rintro e w1 ⟨⟨_, rfl⟩, hp, hk⟩;have HP1 := Hd hp;have HK1 := Hd ((HK0.out.alloc _).trans hk);have HX1 := Hd ((HX0.out.below (kbelow_box _ _)).kept hk hwb (by decide));clear hp hk;obtain ⟨x0, x1, x2, x3⟩ := HX1.out.ex;go_wp2_with fail
   refine (HCX.out a c _ w1 HKID.out HP1.out (by have := HLE.out; (try simp only [List.length_append] at this ⊢); omega)).mono ?_;rintro e w2 ⟨⟨_, rfl⟩, hp, hk⟩;have HP2 := Hd hp;have HK2 := Hd (HK1.out.trans hk);have HX2 := Hd (HX1.out.kept hk hwb (by decide));clear hp hk;clear x0 x1 x2 x3;go_wp2_with fail
   refine (tokens_any W0 b _ 1 1 [⟨#[41]⟩] _ _ rfl (HP2.out.below (kbelow_box _ _)) (Obx.made_at _ (by simp) _ 9) (by have := HP2.out.bld.lt; first | omega | (simp at this; omega)) (by have := HLE.out; (try simp only [List.length_append] at this ⊢); omega)).mono ?_;rintro e w3 ⟨⟨_, rfl⟩, hp, hk⟩;have HP3 := Hd hp;have HK3 := Hd ((HK2.out.alloc _).trans hk);have HX3 := Hd ((HX2.out.below (kbelow_box _ _)).kept hk hwb (by decide));clear hp hk;go_wp2_with fail
   exact ⟨rfl, .tuple #[], by simp [results, Tryz.results113], ⟨_, rfl⟩, by have := HP3.out; simpa only [List.append_assoc] using this, HK3.out⟩
  ·rw [h7] at HX0 HP0 HK0 ⊢;clear h7
   go_enter Tryz.func113, Tryz.ntmps113
   go_wp2_with fail
   refine (tokens_any W0 b _ 1 1 [⟨#[40]⟩] _ _ rfl (HP0.out.below (kbelow_box _ _)) (Obx.made_at _ (by simp) _ 9) (by have := HP0.out.bld.lt; first | omega | (simp at this; omega)) (by have := HLE.out; (try simp only [List.length_append] at this ⊢); omega)).mono ?_;rintro e w1 ⟨⟨_, rfl⟩, hp, hk⟩;have HP1 := Hd hp;have HK1 := Hd ((HK0.out.alloc _).trans hk);have HX1 := Hd ((HX0.out.below (kbelow_box _ _)).kept hk hwb (by decide));clear hp hk;obtain ⟨x0, x1, x2, x3⟩ := HX1.out.ex;go_wp2_with fail
   refine (HCX.out a c _ w1 HKID.out HP1.out (by have := HLE.out; (try simp only [List.length_append] at this ⊢); omega)).mono ?_;rintro e w2 ⟨⟨_, rfl⟩, hp, hk⟩;have HP2 := Hd hp;have HK2 := Hd (HK1.out.trans hk);have HX2 := Hd (HX1.out.kept hk hwb (by decide));clear hp hk;clear x0 x1 x2 x3;go_wp2_with fail
   refine (tokens_any W0 b _ 1 1 [⟨#[41]⟩] _ _ rfl (HP2.out.below (kbelow_box _ _)) (Obx.made_at _ (by simp) _ 9) (by have := HP2.out.bld.lt; first | omega | (simp at this; omega)) (by have := HLE.out; (try simp only [List.length_append] at this ⊢); omega)).mono ?_;rintro e w3 ⟨⟨_, rfl⟩, hp, hk⟩;have HP3 := Hd hp;have HK3 := Hd ((HK2.out.alloc _).trans hk);have HX3 := Hd ((HX2.out.below (kbelow_box _ _)).kept hk hwb (by decide));clear hp hk;go_wp2_with fail
   exact ⟨rfl, .tuple #[], by simp [results, Tryz.results113], ⟨_, rfl⟩, by have := HP3.out; simpa only [List.append_assoc] using this, HK3.out⟩
 ·have hwr : wrapT x.k x.txt = x.txt := by unfold wrapT; rw [if_neg h7]
  rw [hwr] at hl ⊢;have HLE := Hd hl;obtain ⟨e7, e8, e9, e10, e13⟩ := eql7 h7;clear hl hwr h7
  go_enter Tryz.func113, Tryz.ntmps113
  go_wp2_with fail
  refine (HCX.out a c _ _ HKID.out HP0.out HLE.out).mono ?_;rintro e w1 ⟨⟨_, rfl⟩, hp, hk⟩;have HP1 := Hd hp;have HK1 := Hd (HK0.out.trans hk);clear hp hk;go_wp2_with fail
  exact ⟨rfl, .tuple #[], by simp [results, Tryz.results113], ⟨_, rfl⟩, HP1.out, HK1.out⟩
theorem kid_at {W0 : World} {x : Ex} {a : Option Addr} (h : KidsAt W0 x a) (h0 : 0 < x.m) : ∃ kb off, a = some ⟨kb, off, none⟩ /\ ∀ j, j < x.m -> ∃ (aj : Option Addr) (cj : Nat), KidsAt W0 (x.kid j) aj /\ ∀ w, Below W0.heap.size W0 w -> XCells w kb (off + j * 4) (x.kid j) aj cj := by
 cases x with
 | no => exact h.elim
 | mk k n s m kid =>
   obtain ⟨_, _, h | ⟨b, off, rfl, hB, h⟩⟩ := h
   ·exact absurd h (by simp [Ex.m] at h0; omega)
   ·refine ⟨b, off, rfl, fun j hj => ?_⟩;obtain ⟨aj, cj, h1, h2⟩ := h j hj;exact ⟨aj, cj, h2, fun w hb => h1.below hb hB⟩
theorem sides_any (W0 : World) (b : Nat) (x : Ex) (hm : 2 <= x.m) (h0 : CtI W0 b (x.kid 0)) (h1 : CtI W0 b (x.kid 1)) (sg : ByteArray) (a : Option Addr) (c : Nat) (l : List UInt8) (w : World) (hk : KidsAt W0 x a) (hp : PtS W0 w b l)
 (hl : l.length + (wrapT (x.kid 0).k (x.kid 0).txt ++ (tksL [sg] ++ wrapT (x.kid 1).k (x.kid 1).txt)).length <= 1000000000) :
 Calls Tryz.prog 114 #[.pointer (some ⟨b, 0, none⟩), .agg #[.int .i64 x.k, .int .i64 x.n, .string x.s, .slice a x.m c], .string sg] w fun e w' => PtR W0 w b l (wrapT (x.kid 0).k (x.kid 0).txt ++ (tksL [sg] ++ wrapT (x.kid 1).k (x.kid 1).txt)) e w' := by
 obtain ⟨kb, off, rfl, hkid⟩ := kid_at hk (by omega);obtain ⟨a0, c0, hA0, hC0⟩ := hkid 0 (by omega);obtain ⟨a1, c1, hA1, hC1⟩ := hkid 1 (by omega);have HA0 := Hd hA0;have HA1 := Hd hA1;have HC0 := Hd hC0;have HC1 := Hd hC1;have H0 := Hd h0;have H1 := Hd h1;have HLE := Hd hl;have hm' : (1 : Int) < (x.m : Int) := by omega
 have hm0 : (0 : Int) < (x.m : Int) := by omega
 obtain ⟨a, ha⟩ : ∃ a : Option Addr, a = some ⟨kb, off, none⟩ := ⟨_, rfl⟩;rw [<- ha] at hk ⊢;have hB0 := kbelow_box w (.cells #[.int .i64 x.k, .int .i64 x.n, .string x.s, .slice a x.m c] 50);have HX0 := Hd (par_box w x a c);have HP0 := Hd (hp.below hB0);have HK0 := Hd (kept_below (some b) hB0);have hwb : w.heap.size ≠ b := by have := hp.bld.lt; omega
 clear hB0 hp;subst ha;clear hk hkid hA0 hA1 hC0 hC1 h0 h1 hl;obtain ⟨x0, x1, x2, x3⟩ := HX0.out.ex;obtain ⟨y0, y1, y2, y3⟩ := HC0.out _ HP0.out.bel;simp only [Nat.zero_mul, Nat.add_zero, Nat.reduceMul] at y0 y1 y2 y3;have y0' : _ = some (Value.int .i64 (x.kid 0).k) := y0;have y1' : _ = some (Value.int .i64 (x.kid 0).n) := y1;have y2' : _ = some (Value.string (x.kid 0).s) := y2;have y3' : _ = some (Value.slice a0 (x.kid 0).m c0) := y3
 try simp only [Nat.add_assoc, Nat.reduceAdd] at y0 y1 y2 y3
 go_enter Tryz.func114, Tryz.ntmps114
 go_wp2_with fail
 refine (H0.out a0 c0 _ _ HA0.out HP0.out (by have := HLE.out; (try simp only [List.length_append] at this ⊢); omega)).mono ?_;rintro e w1 ⟨⟨_, rfl⟩, hp, hk⟩;have HP1 := Hd hp;have HK1 := Hd (HK0.out.trans hk);have HX1 := Hd (HX0.out.kept hk hwb (by decide));clear hp hk;clear x0 x1 x2 x3 y0' y1' y2' y3' y0 y1 y2 y3;obtain ⟨x0, x1, x2, x3⟩ := HX1.out.ex;go_wp2_with fail
 refine (tokens_any W0 b _ 1 1 [sg] _ _ rfl (HP1.out.below (kbelow_box _ _)) (Obx.made_at _ (by simp) _ 9) (by have := HP1.out.bld.lt; first | omega | (simp at this; omega)) (by have := HLE.out; (try simp only [List.length_append] at this ⊢); omega)).mono ?_;rintro e w2 ⟨⟨_, rfl⟩, hp, hk⟩;have HP2 := Hd hp;have HK2 := Hd ((HK1.out.alloc _).trans hk);have HX2 := Hd ((HX1.out.below (kbelow_box _ _)).kept hk hwb (by decide));clear hp hk;clear x0 x1 x2 x3;obtain ⟨x0, x1, x2, x3⟩ := HX2.out.ex;obtain ⟨y0, y1, y2, y3⟩ := HC1.out _ HP2.out.bel;simp only [Nat.zero_mul, Nat.add_zero, Nat.reduceMul] at y0 y1 y2 y3;have y0' : _ = some (Value.int .i64 (x.kid 1).k) := y0;have y1' : _ = some (Value.int .i64 (x.kid 1).n) := y1;have y2' : _ = some (Value.string (x.kid 1).s) := y2;have y3' : _ = some (Value.slice a1 (x.kid 1).m c1) := y3
 try simp only [Nat.add_assoc, Nat.reduceAdd] at y0 y1 y2 y3
 go_wp2_with fail
 refine (H1.out a1 c1 _ _ HA1.out HP2.out (by have := HLE.out; (try simp only [List.length_append] at this ⊢); omega)).mono ?_;rintro e w3 ⟨⟨_, rfl⟩, hp, hk⟩;have HP3 := Hd hp;have HK3 := Hd (HK2.out.trans hk);have HX3 := Hd (HX2.out.kept hk hwb (by decide));clear hp hk;go_wp2_with fail
 exact ⟨rfl, .tuple #[], by simp [results, Tryz.results114], ⟨_, rfl⟩, by have := HP3.out; simpa only [List.append_assoc] using this, HK3.out⟩
theorem pboth_any (W0 : World) (b : Nat) (x : Ex) (hm : 2 <= x.m) (h0 : CtE W0 b (x.kid 0)) (h1 : CtE W0 b (x.kid 1)) (sg : ByteArray) (a : Option Addr) (c : Nat) (l : List UInt8) (w : World) (hk : KidsAt W0 x a) (hp : PtS W0 w b l)
 (hl : l.length + (tksL [sg, ⟨#[40]⟩] ++ ((x.kid 0).txt ++ (tksL [⟨#[44]⟩] ++ ((x.kid 1).txt ++ tksL [⟨#[41]⟩])))).length <= 1000000000) :
 Calls Tryz.prog 116 #[.pointer (some ⟨b, 0, none⟩), .agg #[.int .i64 x.k, .int .i64 x.n, .string x.s, .slice a x.m c], .string sg] w fun e w' => PtR W0 w b l (tksL [sg, ⟨#[40]⟩] ++ ((x.kid 0).txt ++ (tksL [⟨#[44]⟩] ++ ((x.kid 1).txt ++ tksL [⟨#[41]⟩])))) e w' := by
 obtain ⟨kb, off, rfl, hkid⟩ := kid_at hk (by omega);obtain ⟨a0, c0, hA0, hC0⟩ := hkid 0 (by omega);obtain ⟨a1, c1, hA1, hC1⟩ := hkid 1 (by omega);have HA0 := Hd hA0;have HA1 := Hd hA1;have HC0 := Hd hC0;have HC1 := Hd hC1;have H0 := Hd h0;have H1 := Hd h1;have HLE := Hd hl;have hm' : (1 : Int) < (x.m : Int) := by omega
 have hm0 : (0 : Int) < (x.m : Int) := by omega
 obtain ⟨a, ha⟩ : ∃ a : Option Addr, a = some ⟨kb, off, none⟩ := ⟨_, rfl⟩;rw [<- ha] at hk ⊢;have hB0 := kbelow_box w (.cells #[.int .i64 x.k, .int .i64 x.n, .string x.s, .slice a x.m c] 50);have HX0 := Hd (par_box w x a c);have HP0 := Hd (hp.below hB0);have HK0 := Hd (kept_below (some b) hB0);have hwb : w.heap.size ≠ b := by have := hp.bld.lt; omega
 clear hB0 hp;subst ha;clear hk hkid hA0 hA1 hC0 hC1 h0 h1 hl
 go_enter Tryz.func116, Tryz.ntmps116
 go_wp2_with fail
 refine (tokens_any W0 b _ 2 2 [sg, ⟨#[40]⟩] _ _ rfl (HP0.out.below (kbelow_box _ _)) (Obx.made_at _ (by simp) _ 9) (by have := HP0.out.bld.lt; first | omega | (simp at this; omega)) (by have := HLE.out; (try simp only [List.length_append] at this ⊢); omega)).mono ?_;rintro e w1 ⟨⟨_, rfl⟩, hp, hk⟩;have HP1 := Hd hp;have HK1 := Hd ((HK0.out.alloc _).trans hk);have HX1 := Hd ((HX0.out.below (kbelow_box _ _)).kept hk hwb (by decide));clear hp hk;obtain ⟨x0, x1, x2, x3⟩ := HX1.out.ex;obtain ⟨y0, y1, y2, y3⟩ := HC0.out _ HP1.out.bel;simp only [Nat.zero_mul, Nat.add_zero, Nat.reduceMul] at y0 y1 y2 y3;have y0' : _ = some (Value.int .i64 (x.kid 0).k) := y0;have y1' : _ = some (Value.int .i64 (x.kid 0).n) := y1;have y2' : _ = some (Value.string (x.kid 0).s) := y2;have y3' : _ = some (Value.slice a0 (x.kid 0).m c0) := y3
 try simp only [Nat.add_assoc, Nat.reduceAdd] at y0 y1 y2 y3
 go_wp2_with fail
 refine (H0.out a0 c0 _ _ HA0.out HP1.out (by have := HLE.out; (try simp only [List.length_append] at this ⊢); omega)).mono ?_;rintro e w2 ⟨⟨_, rfl⟩, hp, hk⟩;have HP2 := Hd hp;have HK2 := Hd (HK1.out.trans hk);have HX2 := Hd (HX1.out.kept hk hwb (by decide));clear hp hk;clear x0 x1 x2 x3 y0' y1' y2' y3' y0 y1 y2 y3;go_wp2_with fail
 refine (tokens_any W0 b _ 1 1 [⟨#[44]⟩] _ _ rfl (HP2.out.below (kbelow_box _ _)) (Obx.made_at _ (by simp) _ 9) (by have := HP2.out.bld.lt; first | omega | (simp at this; omega)) (by have := HLE.out; (try simp only [List.length_append] at this ⊢); omega)).mono ?_;rintro e w3 ⟨⟨_, rfl⟩, hp, hk⟩;have HP3 := Hd hp;have HK3 := Hd ((HK2.out.alloc _).trans hk);have HX3 := Hd ((HX2.out.below (kbelow_box _ _)).kept hk hwb (by decide));clear hp hk;obtain ⟨x0, x1, x2, x3⟩ := HX3.out.ex;obtain ⟨y0, y1, y2, y3⟩ := HC1.out _ HP3.out.bel;simp only [Nat.zero_mul, Nat.add_zero, Nat.reduceMul] at y0 y1 y2 y3;have y0' : _ = some (Value.int .i64 (x.kid 1).k) := y0;have y1' : _ = some (Value.int .i64 (x.kid 1).n) := y1;have y2' : _ = some (Value.string (x.kid 1).s) := y2;have y3' : _ = some (Value.slice a1 (x.kid 1).m c1) := y3
 try simp only [Nat.add_assoc, Nat.reduceAdd] at y0 y1 y2 y3
 go_wp2_with fail
 refine (H1.out a1 c1 _ _ HA1.out HP3.out (by have := HLE.out; (try simp only [List.length_append] at this ⊢); omega)).mono ?_;rintro e w4 ⟨⟨_, rfl⟩, hp, hk⟩;have HP4 := Hd hp;have HK4 := Hd (HK3.out.trans hk);have HX4 := Hd (HX3.out.kept hk hwb (by decide));clear hp hk;clear x0 x1 x2 x3 y0' y1' y2' y3' y0 y1 y2 y3;go_wp2_with fail
 refine (tokens_any W0 b _ 1 1 [⟨#[41]⟩] _ _ rfl (HP4.out.below (kbelow_box _ _)) (Obx.made_at _ (by simp) _ 9) (by have := HP4.out.bld.lt; first | omega | (simp at this; omega)) (by have := HLE.out; (try simp only [List.length_append] at this ⊢); omega)).mono ?_;rintro e w5 ⟨⟨_, rfl⟩, hp, hk⟩;have HP5 := Hd hp;have HK5 := Hd ((HK4.out.alloc _).trans hk);have HX5 := Hd ((HX4.out.below (kbelow_box _ _)).kept hk hwb (by decide));clear hp hk;go_wp2_with fail
 exact ⟨rfl, .tuple #[], by simp [results, Tryz.results116], ⟨_, rfl⟩, by have := HP5.out; simpa only [List.append_assoc] using this, HK5.out⟩
theorem mT_of {s : ByteArray} {n : Int} (h : s.data.toList = Mny.printL n) : s = mT n := Mny.ba_ext (by rw [h]; rfl)
theorem hundredths_any (n : Int) (hn : monB n = true) (w : World) (ht : Mny.Tab w) :
 Calls Tryz.prog 112 #[.int .i64 n] w fun e w' => e = .returned (.string (mT n)) /\ Below w.heap.size w w' := by
 have HM := Hd (Mny.print_ok n w hn ht);clear hn ht
 go_enter Tryz.func112, Tryz.ntmps112
 go_wp2_with fail
 refine HM.out.mono ?_;rintro e w1 ⟨s, rfl, hs, hb⟩;have HB := Hd hb;have HS := Hd (mT_of hs);clear hs hb;go_wp2_with fail
 exact ⟨rfl, .string s, by simp [results, Tryz.results112], by rw [HS.out], HB.out⟩
theorem choice_any (W0 : World) (b : Nat) (x : Ex) (hm : 4 <= x.m) (t : Nat) (ht : x.n = (t : Int)) (ht4 : t < 4) (hT : TSs W0) (h0 : CtI W0 b (x.kid 0)) (h1 : CtI W0 b (x.kid 1)) (h2 : CtE W0 b (x.kid 2)) (h3 : CtE W0 b (x.kid 3)) (a : Option Addr) (c : Nat) (l : List UInt8) (w : World) (hk : KidsAt W0 x a) (hp : PtS W0 w b l)
 (hl : l.length + (tksL [⟨#[105, 102]⟩] ++ ((wrapT (x.kid 0).k (x.kid 0).txt ++ (tksL [tsW t] ++ wrapT (x.kid 1).k (x.kid 1).txt)) ++ (tksL [⟨#[116, 104, 101, 110]⟩] ++ ((x.kid 2).txt ++ (tksL [⟨#[101, 108, 115, 101]⟩] ++ (x.kid 3).txt))))).length <= 1000000000) :
 Calls Tryz.prog 117 #[.pointer (some ⟨b, 0, none⟩), .agg #[.int .i64 x.k, .int .i64 x.n, .string x.s, .slice a x.m c]] w fun e w' => PtR W0 w b l (tksL [⟨#[105, 102]⟩] ++ ((wrapT (x.kid 0).k (x.kid 0).txt ++ (tksL [tsW t] ++ wrapT (x.kid 1).k (x.kid 1).txt)) ++ (tksL [⟨#[116, 104, 101, 110]⟩] ++ ((x.kid 2).txt ++ (tksL [⟨#[101, 108, 115, 101]⟩] ++ (x.kid 3).txt))))) e w' := by
 have hsd := fun l w hp hl => sides_any W0 b x (by omega) h0 h1 (tsW t) a c l w hk hp hl
 rw [ht] at hsd;have HSD := Hd hsd;have HTN := Hd ht;clear hsd;obtain ⟨kb, off, rfl, hkid⟩ := kid_at hk (by omega);obtain ⟨a2, c2, hA2, hC2⟩ := hkid 2 (by omega);obtain ⟨a3, c3, hA3, hC3⟩ := hkid 3 (by omega);have HA2 := Hd hA2;have HA3 := Hd hA3;have HC2 := Hd hC2;have HC3 := Hd hC3;have H2 := Hd h2;have H3 := Hd h3;have HLE := Hd hl;have HTS := Hd hT;have hm2 : (2 : Int) < (x.m : Int) := by omega
 have hm3 : (3 : Int) < (x.m : Int) := by omega
 obtain ⟨a, ha⟩ : ∃ a : Option Addr, a = some ⟨kb, off, none⟩ := ⟨_, rfl⟩;rw [<- ha] at hk HSD ⊢;have hB0 := kbelow_box w (.cells #[.int .i64 x.k, .int .i64 x.n, .string x.s, .slice a x.m c] 50);have HX0 := Hd (par_box w x a c);have HP0 := Hd (hp.below hB0);have HK0 := Hd (kept_below (some b) hB0);have hwb : w.heap.size ≠ b := by have := hp.bld.lt; omega
 clear hB0 hp;subst ha;clear hk hkid hA2 hA3 hC2 hC3 h0 h1 h2 h3 hl hT ht
 go_enter Tryz.func117, Tryz.ntmps117
 go_wp2_with fail
 refine (tokens_any W0 b _ 1 1 [⟨#[105, 102]⟩] _ _ rfl (HP0.out.below (kbelow_box _ _)) (Obx.made_at _ (by simp) _ 9) (by have := HP0.out.bld.lt; first | omega | (simp at this; omega)) (by have := HLE.out; (try simp only [List.length_append] at this ⊢); omega)).mono ?_;rintro e w1 ⟨⟨_, rfl⟩, hp, hk⟩;have HP1 := Hd hp;have HK1 := Hd ((HK0.out.alloc _).trans hk);have HX1 := Hd ((HX0.out.below (kbelow_box _ _)).kept hk hwb (by decide));clear hp hk;obtain ⟨x0, x1, x2, x3⟩ := HX1.out.ex;rw [HTN.out] at x1;have HT1 : Hid (TSs w1) := fun j hj => (HP1.out.bel.cell (p := ⟨3, j, none⟩) (blt_of_cell (HTS.out j hj))).trans (HTS.out j hj)
 have zt := HT1.out t ht4;have ht4' : (t : Int) < 4 := by omega
 have ht0' : (0 : Int) <= (t : Int) := by omega
 go_wp2_with fail
 go_region_held (fun w' => w'.cell? ⟨w.heap.size, 0, none⟩ = some (.int .i64 x.k) /\ w'.cell? ⟨w.heap.size, 1, none⟩ = some (.int .i64 (t : Int)) /\ w'.cell? ⟨w.heap.size, 2, none⟩ = some (.string x.s) /\ w'.cell? ⟨w.heap.size, 3, none⟩ = some (.slice (some ⟨kb, off, none⟩) x.m c) /\ w'.cell? ⟨3, t, none⟩ = some (.string (tsW t))) (go_keep)
  (first
   | (go_at_call 114; refine (HSD.out _ _ (HP1.out.below (kbelow_dN (Below.refl _ _) _)) (by have := HLE.out; simp only [List.length_append] at this ⊢; omega)).mono ?_
      rintro e w2 ⟨⟨_, rfl⟩, hp, hk⟩;have HP2 := Hd hp;have HK2 := Hd (HK1.out.trans ((kept_below (some b) (kbelow_dN (Below.refl _ _) _)).trans hk));have HX2 := Hd ((HX1.out.below (kbelow_dN (Below.refl _ _) _)).kept hk hwb (by decide));clear hp hk;obtain ⟨t0, t1, t2, t3⟩ := HX2.out.ex;rw [HTN.out] at t1;have t4 := (HP2.out.bel.cell (p := ⟨3, t, none⟩) (blt_of_cell (HTS.out t ht4))).trans (HTS.out t ht4)))
 clear t0 t1 t2 t3 t4 x0 x1 x2 x3 zt;go_wp2_with fail
 refine (tokens_any W0 b _ 1 1 [⟨#[116, 104, 101, 110]⟩] _ _ rfl (HP2.out.below (kbelow_box _ _)) (Obx.made_at _ (by simp) _ 9) (by have := HP2.out.bld.lt; first | omega | (simp at this; omega)) (by have := HLE.out; (try simp only [List.length_append] at this ⊢); omega)).mono ?_;rintro e w3 ⟨⟨_, rfl⟩, hp, hk⟩;have HP3 := Hd hp;have HK3 := Hd ((HK2.out.alloc _).trans hk);have HX3 := Hd ((HX2.out.below (kbelow_box _ _)).kept hk hwb (by decide));clear hp hk;obtain ⟨x0, x1, x2, x3⟩ := HX3.out.ex;obtain ⟨y0, y1, y2, y3⟩ := HC2.out _ HP3.out.bel;simp only [Nat.zero_mul, Nat.add_zero, Nat.reduceMul] at y0 y1 y2 y3;have y0' : _ = some (Value.int .i64 (x.kid 2).k) := y0;have y1' : _ = some (Value.int .i64 (x.kid 2).n) := y1;have y2' : _ = some (Value.string (x.kid 2).s) := y2;have y3' : _ = some (Value.slice a2 (x.kid 2).m c2) := y3
 try simp only [Nat.add_assoc, Nat.reduceAdd] at y0 y1 y2 y3
 go_wp2_with fail
 refine (H2.out a2 c2 _ _ HA2.out HP3.out (by have := HLE.out; (try simp only [List.length_append] at this ⊢); omega)).mono ?_;rintro e w4 ⟨⟨_, rfl⟩, hp, hk⟩;have HP4 := Hd hp;have HK4 := Hd (HK3.out.trans hk);have HX4 := Hd (HX3.out.kept hk hwb (by decide));clear hp hk;clear x0 x1 x2 x3 y0' y1' y2' y3' y0 y1 y2 y3;go_wp2_with fail
 refine (tokens_any W0 b _ 1 1 [⟨#[101, 108, 115, 101]⟩] _ _ rfl (HP4.out.below (kbelow_box _ _)) (Obx.made_at _ (by simp) _ 9) (by have := HP4.out.bld.lt; first | omega | (simp at this; omega)) (by have := HLE.out; (try simp only [List.length_append] at this ⊢); omega)).mono ?_;rintro e w5 ⟨⟨_, rfl⟩, hp, hk⟩;have HP5 := Hd hp;have HK5 := Hd ((HK4.out.alloc _).trans hk);have HX5 := Hd ((HX4.out.below (kbelow_box _ _)).kept hk hwb (by decide));clear hp hk;obtain ⟨x0, x1, x2, x3⟩ := HX5.out.ex;obtain ⟨y0, y1, y2, y3⟩ := HC3.out _ HP5.out.bel;simp only [Nat.zero_mul, Nat.add_zero, Nat.reduceMul] at y0 y1 y2 y3;have y0' : _ = some (Value.int .i64 (x.kid 3).k) := y0;have y1' : _ = some (Value.int .i64 (x.kid 3).n) := y1;have y2' : _ = some (Value.string (x.kid 3).s) := y2;have y3' : _ = some (Value.slice a3 (x.kid 3).m c3) := y3
 try simp only [Nat.add_assoc, Nat.reduceAdd] at y0 y1 y2 y3
 go_wp2_with fail
 refine (H3.out a3 c3 _ _ HA3.out HP5.out (by have := HLE.out; (try simp only [List.length_append] at this ⊢); omega)).mono ?_;rintro e w6 ⟨⟨_, rfl⟩, hp, hk⟩;have HP6 := Hd hp;have HK6 := Hd (HK5.out.trans hk);have HX6 := Hd (HX5.out.kept hk hwb (by decide));clear hp hk;go_wp2_with fail
 exact ⟨rfl, .tuple #[], by simp [results, Tryz.results117], ⟨_, rfl⟩, by have := HP6.out; simpa only [List.append_assoc] using this, HK6.out⟩
end Go.Proofs.YtmlpedgcpffpnaaGreatDoor
