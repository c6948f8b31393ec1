/-
  Promise H1: amounts with names: how they lie in memory; walks of the two searches of checkAmounts.
  Expressions as trees, and how they lie in memory; lines.
  Expressions and lines that come in, opened.
  Promise F2: what is asked of expressions: how many there are, how deep, and which is wrong first.
  Tables in a list, and amounts: how they lie in memory, opened; what is known.
  Promise H1: do names rise? Walks of Rise, for amounts and for tables.
  Walks of money.Part and the reference's Part: each returns the part, or the error, at every three ints.
  Promise H1: what is wrong with amounts: the walks of checkAmounts, the program's and the reference's.
  Promise H1: the walk of the reference's checkAmounts.
  Promise H1: what is wrong with tables: the walk of checkTables; what is wrong with what is known: the walk of Known.
  Promise H1: the walk of the reference's CheckKnown.
-/
import Derived.Test.YtkalfdjmklakdaaGreatDoorKA
import Derived.Lib.QuietBelow
import Derived.Laws.Cover1
namespace Go.Proofs.YtkalfdjmklakdaaGreatDoor
open Go.RowKit
structure Am where
 name : ByteArray
 mon : Int
def anth (l : List Am) (j : Nat) : Am := l.getD j ⟨⟨#[]⟩, 0⟩
def AmIs (w : World) (b o : Nat) (r : Am) : Prop := w.cell? ⟨b, o, none⟩ = some (.string r.name) ∧ w.cell? ⟨b, o + 1, none⟩ = some (.int .i64 r.mon)
theorem AmIs.below {B : Nat} {w w' : World} {b o : Nat} {r : Am} (h : AmIs w b o r) (hb : Below B w w') (hB : b < B) : AmIs w' b o r :=
 ⟨(hb.cell (p := ⟨b, o, none⟩) hB).trans h.1, (hb.cell (p := ⟨b, o + 1, none⟩) hB).trans h.2⟩
def AAt (w : World) (b off : Nat) (l : List Am) : Prop := b < w.heap.size ∧ ∀ j, j < l.length → AmIs w b (off + j * 2) (anth l j)
theorem AAt.below {B : Nat} {w w' : World} {b off : Nat} {l : List Am} (h : AAt w b off l) (hb : Below B w w') (hB : b < B) : AAt w' b off l :=
 ⟨Nat.lt_of_lt_of_le h.1 hb.size, fun j hj => (h.2 j hj).below hb hB⟩
def CameA (w : World) (a : Option Addr) (l : List Am) : Prop := l.length = 0 ∨ ∃ b off, a = some ⟨b, off, none⟩ ∧ AAt w b off l
theorem CameA.below {w w' : World} {a : Option Addr} {l : List Am} (h : CameA w a l) (hb : Below w.heap.size w w') : CameA w' a l := by
 rcases h with h | ⟨b, off, rfl, h⟩
 ·exact .inl h
 ·exact .inr ⟨b, off, rfl, h.below hb h.1⟩
theorem CameA.open {w : World} {a : Option Addr} {l : List Am} (h : CameA w a l) {n : Nat} (hn : l.length = n) (h0 : 0 < n) : ∃ b off, a = some ⟨b, off, none⟩ ∧ ∀ w', Below w.heap.size w w' → ∀ k, k < n → AmIs w' b (off + k * 2) (anth l k) := by
 rcases h with h | ⟨b, off, rfl, h⟩
 ·omega
 ·exact ⟨b, off, rfl, fun w' hb k hk => AmIs.below (h.2 k (by omega)) hb h.1⟩
theorem anth_mem {l : List Am} {j : Nat} (hj : j < l.length) : anth l j ∈ l := by
 unfold anth
 rw [List.getD_eq_getElem?_getD, List.getElem?_eq_getElem hj]
 exact List.getElem_mem hj
theorem all_nth {P : Am → Bool} {l : List Am} (h : l.all P = true) {j : Nat} (hj : j < l.length) : P (anth l j) = true := List.all_eq_true.1 h _ (anth_mem hj)
theorem all_of {P : Am → Bool} {l : List Am} (h : ∀ j, j < l.length → P (anth l j) = true) : l.all P = true := by
 rw [List.all_eq_true]
 intro x hx
 obtain ⟨j, hj, rfl⟩ := List.mem_iff_getElem.1 hx
 have := h j hj
 simpa [anth, List.getD_eq_getElem?_getD, hj] using this
theorem all_not {P : Am → Bool} {l : List Am} {j : Nat} (hj : j < l.length) (h : P (anth l j) = false) : l.all P = false := by
 rw [Bool.eq_false_iff]
 intro e
 rw [all_nth e hj] at h
 cases h
def anB (r : Am) : Bool := decide (NameP r.name)
def amB (r : Am) : Bool := monB r.mon
def ansB (l : List Am) : Bool := l.all anB
def amsB (l : List Am) : Bool := l.all amB
set_option maxHeartbeats 1000000 in
theorem notName_any (s : ByteArray) (m : Int) (w : World) :
 Calls Tryz.prog 249 #[.agg #[.string s, .int .i64 m]] w fun e w' => e = .returned (.bool (!anB ⟨s, m⟩)) ∧ Below w.heap.size w w' := by
 have HB0 := Lib.hid (kbelow_box w (.cells #[.string s, .int .i64 m] 87))
 go_enter Tryz.func249, Tryz.ntmps249
 go_wp2_with fail
 refine (IsName_any s _).mono ?_
 rintro e w1 ⟨b, rfl, hb, hbel⟩
 have HB1 := Lib.hid (HB0.out.trans (hbel.mono HB0.out.size))
 have HE : Hid (anB ⟨s, m⟩ = b) := by
  unfold Hid anB
  cases b
  ·exact decide_eq_false (fun h => by have := hb.2 h; cases this)
  ·exact decide_eq_true (hb.1 rfl)
 clear hb hbel
 go_wp2_with fail
 go_ret
 exact ⟨kret_bool (by rw [HE.out]), HB1.out⟩
set_option maxHeartbeats 1000000 in
theorem notMon_any (s : ByteArray) (m : Int) (w : World) :
 Calls Tryz.prog 250 #[.agg #[.string s, .int .i64 m]] w fun e w' => e = .returned (.bool (!amB ⟨s, m⟩)) ∧ Below w.heap.size w w' := by
 have HB0 := Lib.hid (kbelow_box w (.cells #[.string s, .int .i64 m] 87))
 go_enter Tryz.func250, Tryz.ntmps250
 go_wp2_with fail
 refine (isMoney_any _ _).mono ?_
 rintro e w1 ⟨rfl, h'⟩
 subst w1
 go_wp2_with fail
 go_ret
 exact ⟨rfl, HB0.out⟩
set_option maxRecDepth 100000 in
set_option maxHeartbeats 1000000 in
theorem indexNames (a : Option Addr) (n cap : Nat) (l : List Am) (w : World) (hc : CameA w a l) (hn : l.length = n) (hm : n ≤ maxLen) :
 Calls Tryz.prog 191 #[.slice a n cap, .func (.func 249) #[] #[]] w fun e w' => ∃ i : Int, e = .returned (.int .i64 i) ∧ -1 ≤ i ∧ (i = -1 ↔ ansB l = true) ∧ Below w.heap.size w w' := by
 have hm' : n ≤ 9223372036854775807 := by unfold maxLen at hm; omega
 have HO := Lib.hid (fun h0 => hc.open hn h0)
 clear hm hc
 go_enter Tryz.func191, Tryz.ntmps191
 go_wp2_with fail
 go_loopw [8] (fun i wr => ∃ k : Nat, k ≤ n ∧ i = .int .i64 k ∧ (∀ j, j < k → anB (anth l j) = true) ∧ Below w.heap.size w wr) (fun i _ => n - (intOf i).toNat)
 case atStart => exact ⟨0, Nat.zero_le _, rfl, fun j hj => by omega, Below.refl _ _⟩
 case round =>
  obtain ⟨k, hk, rfl, hall, hb⟩ := hrel
  have HA := Lib.hid hall
  have HB := Lib.hid hb
  clear hall hb
  by_cases hlt : k < n
  ·have hlt' : (k : Int) < (n : Int) := by omega
   obtain ⟨b, off, rfl, hcell⟩ := HO.out (by omega)
   obtain ⟨x0, x1⟩ := hcell wr HB.out k hlt
   clear hcell
   cases hr : anB (anth l k)
   ·have HE : Hid (ansB l = false) := Lib.hid (all_not (l := l) (j := k) (by omega) hr)
    go_wp2_with fail
    refine (notName_any _ _ _).mono ?_
    rintro e w1 ⟨rfl, hb1⟩
    have HB1 := Lib.hid (HB.out.trans (hb1.mono HB.out.size))
    have hr' : anB ⟨(anth l k).name, (anth l k).mon⟩ = false := hr
    rw [hr']
    clear hb1 x0 x1
    go_wp2_with fail
    go_ret
    exact ⟨k, rfl, by omega, ⟨fun h => by omega, fun h => by rw [HE.out] at h; cases h⟩, HB1.out⟩
   ·go_wp2_with fail
    refine (notName_any _ _ _).mono ?_
    rintro e w1 ⟨rfl, hb1⟩
    have HB1 := Lib.hid (HB.out.trans (hb1.mono HB.out.size))
    have hr' : anB ⟨(anth l k).name, (anth l k).mon⟩ = true := hr
    rw [hr']
    clear hb1 x0 x1
    go_wp2_with fail
    go_roundw
    case rel =>
     refine ⟨k + 1, by omega, by go_num, ?_, HB1.out⟩
     intro j hj
     by_cases e : j = k
     ·subst e; exact hr
     ·exact HA.out j (by omega)
    case measure => simp [intOf]; omega
  ·have hkn : k = n := by omega
   subst hkn
   have HL : Hid (ansB l = true) := Lib.hid (all_of (l := l) (fun j hj => HA.out j (by omega)))
   go_wp2_with fail
   go_ret
   exact ⟨-1, rfl, by omega, ⟨fun _ => HL.out, fun _ => rfl⟩, HB.out⟩
set_option maxHeartbeats 1000000 in
theorem containsNames (a : Option Addr) (n cap : Nat) (l : List Am) (w : World) (hc : CameA w a l) (hn : l.length = n) (hm : n ≤ maxLen) :
 Calls Tryz.prog 148 #[.slice a n cap, .func (.func 249) #[] #[]] w fun e w' => e = .returned (.bool (!ansB l)) ∧ Below w.heap.size w w' := by
 have HC := Lib.hid hc
 have HM := Lib.hid hm
 clear hc hm
 go_enter Tryz.func148, Tryz.ntmps148
 go_wp2_with fail
 refine (indexNames a n cap l _ HC.out hn HM.out).mono ?_
 rintro e w1 ⟨i, rfl, hi, hall, hb⟩
 have HB := Lib.hid hb
 clear hb
 have HR : Hid ((!ansB l) = decide (0 ≤ i)) := by
  unfold Hid
  cases h : ansB l
  ·rw [h] at hall
   have : i ≠ -1 := fun e => by have := hall.1 e; cases this
   simp; omega
  ·obtain rfl := hall.2 h
   simp
 clear hall
 go_wp2_with fail
 go_ret
 exact ⟨kret_bool (by rw [HR.out]), HB.out⟩
set_option maxRecDepth 100000 in
set_option maxHeartbeats 1000000 in
theorem indexMoney (a : Option Addr) (n cap : Nat) (l : List Am) (w : World) (hc : CameA w a l) (hn : l.length = n) (hm : n ≤ maxLen) :
 Calls Tryz.prog 191 #[.slice a n cap, .func (.func 250) #[] #[]] w fun e w' => ∃ i : Int, e = .returned (.int .i64 i) ∧ -1 ≤ i ∧ (i = -1 ↔ amsB l = true) ∧ Below w.heap.size w w' := by
 have hm' : n ≤ 9223372036854775807 := by unfold maxLen at hm; omega
 have HO := Lib.hid (fun h0 => hc.open hn h0)
 clear hm hc
 go_enter Tryz.func191, Tryz.ntmps191
 go_wp2_with fail
 go_loopw [8] (fun i wr => ∃ k : Nat, k ≤ n ∧ i = .int .i64 k ∧ (∀ j, j < k → amB (anth l j) = true) ∧ Below w.heap.size w wr) (fun i _ => n - (intOf i).toNat)
 case atStart => exact ⟨0, Nat.zero_le _, rfl, fun j hj => by omega, Below.refl _ _⟩
 case round =>
  obtain ⟨k, hk, rfl, hall, hb⟩ := hrel
  have HA := Lib.hid hall
  have HB := Lib.hid hb
  clear hall hb
  by_cases hlt : k < n
  ·have hlt' : (k : Int) < (n : Int) := by omega
   obtain ⟨b, off, rfl, hcell⟩ := HO.out (by omega)
   obtain ⟨x0, x1⟩ := hcell wr HB.out k hlt
   clear hcell
   cases hr : amB (anth l k)
   ·have HE : Hid (amsB l = false) := Lib.hid (all_not (l := l) (j := k) (by omega) hr)
    go_wp2_with fail
    refine (notMon_any _ _ _).mono ?_
    rintro e w1 ⟨rfl, hb1⟩
    have HB1 := Lib.hid (HB.out.trans (hb1.mono HB.out.size))
    have hr' : amB ⟨(anth l k).name, (anth l k).mon⟩ = false := hr
    rw [hr']
    clear hb1 x0 x1
    go_wp2_with fail
    go_ret
    exact ⟨k, rfl, by omega, ⟨fun h => by omega, fun h => by rw [HE.out] at h; cases h⟩, HB1.out⟩
   ·go_wp2_with fail
    refine (notMon_any _ _ _).mono ?_
    rintro e w1 ⟨rfl, hb1⟩
    have HB1 := Lib.hid (HB.out.trans (hb1.mono HB.out.size))
    have hr' : amB ⟨(anth l k).name, (anth l k).mon⟩ = true := hr
    rw [hr']
    clear hb1 x0 x1
    go_wp2_with fail
    go_roundw
    case rel =>
     refine ⟨k + 1, by omega, by go_num, ?_, HB1.out⟩
     intro j hj
     by_cases e : j = k
     ·subst e; exact hr
     ·exact HA.out j (by omega)
    case measure => simp [intOf]; omega
  ·have hkn : k = n := by omega
   subst hkn
   have HL : Hid (amsB l = true) := Lib.hid (all_of (l := l) (fun j hj => HA.out j (by omega)))
   go_wp2_with fail
   go_ret
   exact ⟨-1, rfl, by omega, ⟨fun _ => HL.out, fun _ => rfl⟩, HB.out⟩
set_option maxHeartbeats 1000000 in
theorem containsMoney (a : Option Addr) (n cap : Nat) (l : List Am) (w : World) (hc : CameA w a l) (hn : l.length = n) (hm : n ≤ maxLen) :
 Calls Tryz.prog 148 #[.slice a n cap, .func (.func 250) #[] #[]] w fun e w' => e = .returned (.bool (!amsB l)) ∧ Below w.heap.size w w' := by
 have HC := Lib.hid hc
 have HM := Lib.hid hm
 clear hc hm
 go_enter Tryz.func148, Tryz.ntmps148
 go_wp2_with fail
 refine (indexMoney a n cap l _ HC.out hn HM.out).mono ?_
 rintro e w1 ⟨i, rfl, hi, hall, hb⟩
 have HB := Lib.hid hb
 clear hb
 have HR : Hid ((!amsB l) = decide (0 ≤ i)) := by
  unfold Hid
  cases h : amsB l
  ·rw [h] at hall
   have : i ≠ -1 := fun e => by have := hall.1 e; cases this
   simp; omega
  ·obtain rfl := hall.2 h
   simp
 clear hall
 go_wp2_with fail
 go_ret
 exact ⟨kret_bool (by rw [HR.out]), HB.out⟩
end Go.Proofs.YtkalfdjmklakdaaGreatDoor
namespace Go.Proofs.YtkalfdjmklakdaaGreatDoor
open Go.RowKit
inductive Ex where
 | no
 | mk (k n : Int) (s : ByteArray) (m : Nat) (kid : Nat → Ex)
def Ex.k : Ex → Int | .no => 0 | .mk k _ _ _ _ => k
def Ex.n : Ex → Int | .no => 0 | .mk _ n _ _ _ => n
def Ex.s : Ex → ByteArray | .no => ⟨#[]⟩ | .mk _ _ s _ _ => s
def Ex.m : Ex → Nat | .no => 0 | .mk _ _ _ m _ => m
def Ex.kid : Ex → Nat → Ex | .no => fun _ => .no | .mk _ _ _ _ f => f
def XCells (w : World) (b o : Nat) (x : Ex) (a : Option Addr) (c : Nat) : Prop := w.cell? ⟨b, o, none⟩ = some (.int .i64 x.k) ∧ w.cell? ⟨b, o + 1, none⟩ = some (.int .i64 x.n) ∧ w.cell? ⟨b, o + 2, none⟩ = some (.string x.s) ∧ w.cell? ⟨b, o + 3, none⟩ = some (.slice a x.m c)
theorem XCells.below {B : Nat} {w w' : World} {b o : Nat} {x : Ex} {a : Option Addr} {c : Nat} (h : XCells w b o x a c) (hb : Below B w w') (hB : b < B) : XCells w' b o x a c :=
 ⟨(hb.cell (p := ⟨b, o, none⟩) hB).trans h.1, (hb.cell (p := ⟨b, o + 1, none⟩) hB).trans h.2.1, (hb.cell (p := ⟨b, o + 2, none⟩) hB).trans h.2.2.1, (hb.cell (p := ⟨b, o + 3, none⟩) hB).trans h.2.2.2⟩
def KidsAt (w : World) : Ex → Option Addr → Prop
 | .no, _ => False
 | .mk _ _ s m kid, a => s.size ≤ maxLen ∧ m ≤ maxLen ∧ (m = 0 ∨ ∃ b off, a = some ⟨b, off, none⟩ ∧ b < w.heap.size ∧ ∀ j, j < m → ∃ (aj : Option Addr) (cj : Nat), XCells w b (off + j * 4) (kid j) aj cj ∧ KidsAt w (kid j) aj)
theorem KidsAt.below {w w' : World} (hb : Below w.heap.size w w') : ∀ {x : Ex} {a : Option Addr}, KidsAt w x a → KidsAt w' x a := by
 intro x
 induction x with
 | no => intro a h; exact h.elim
 | mk k n s m kid ih =>
   intro a h
   obtain ⟨hs, hm, h⟩ := h
   refine ⟨hs, hm, ?_⟩
   rcases h with h | ⟨b, off, rfl, hB, h⟩
   ·exact .inl h
   ·refine .inr ⟨b, off, rfl, Nat.lt_of_lt_of_le hB hb.size, fun j hj => ?_⟩
    obtain ⟨aj, cj, h1, h2⟩ := h j hj
    exact ⟨aj, cj, h1.below hb hB, ih j h2⟩
theorem KidsAt.name {w : World} {x : Ex} {a : Option Addr} (h : KidsAt w x a) : x.s.size ≤ maxLen := by
 cases x with
 | no => exact h.elim
 | mk => exact h.1
theorem KidsAt.many {w : World} {x : Ex} {a : Option Addr} (h : KidsAt w x a) : x.m ≤ maxLen := by
 cases x with
 | no => exact h.elim
 | mk => exact h.2.1
theorem KidsAt.open {w : World} {x : Ex} {a : Option Addr} (h : KidsAt w x a) (h0 : 0 < x.m) : ∃ b off, a = some ⟨b, off, none⟩ ∧ ∀ w', Below w.heap.size w w' → ∀ j, j < x.m → ∃ (aj : Option Addr) (cj : Nat), XCells w' b (off + j * 4) (x.kid j) aj cj ∧ KidsAt w' (x.kid j) aj := by
 cases x with
 | no => exact h.elim
 | mk k n s m kid =>
   obtain ⟨_, _, h | ⟨b, off, rfl, hB, h⟩⟩ := h
   ·exact absurd h (by simp [Ex.m] at h0; omega)
   ·refine ⟨b, off, rfl, fun w' hb j hj => ?_⟩
    obtain ⟨aj, cj, h1, h2⟩ := h j hj
    exact ⟨aj, cj, h1.below hb hB, h2.below hb⟩
structure Ln where
 kind : Int
 name : ByteArray
 ex : Ex
def lnth (l : List Ln) (j : Nat) : Ln := l.getD j ⟨0, ⟨#[]⟩, .no⟩
end Go.Proofs.YtkalfdjmklakdaaGreatDoor
namespace Go.Proofs.YtkalfdjmklakdaaGreatDoor
open Go.RowKit
theorem xcells_ex : Tryz.prog.cellsOf 71 = 4 := by kernel_rfl
theorem xcells_ln : Tryz.prog.cellsOf 73 = 6 := by kernel_rfl
theorem xcells_str : Tryz.prog.cellsOf 9 = 1 := by kernel_rfl
theorem xcells_kids : Tryz.prog.cellsOf 69 = 1 := by kernel_rfl
def KidRow (W : World) (a : Option Addr) (len : Nat) (kid : Nat → Ex) : Prop := len ≤ maxLen ∧ (len = 0 ∨ ∃ b off, a = some ⟨b, off, none⟩ ∧ b < W.heap.size ∧ ∀ j, j < len → ∃ (aj : Option Addr) (cj : Nat), XCells W b (off + j * 4) (kid j) aj cj ∧ KidsAt W (kid j) aj)
set_option maxRecDepth 100000 in
theorem open_ex_of {H : Type} {enc : TypeId × Value → H} {W : World} {fuel : Nat} {cs : List Value} {x : DataW H × List MemPlace}
 (ih : ∀ k, k < fuel → ∀ {v : Value} {x : DataW H × List MemPlace}, DataW.trod enc Tryz.prog W 0 (fun _ => true) true k 69 [v] = some x → ∃ (a : Option Addr) (len cap : Nat) (kid : Nat → Ex), v = .slice a len cap ∧ KidRow W a len kid)
 (hlen : cs.length = 4) (h : DataW.trod enc Tryz.prog W 0 (fun _ => true) true fuel 71 cs = some x) :
 ∃ (y : Ex) (a : Option Addr) (c : Nat), cs = [.int .i64 y.k, .int .i64 y.n, .string y.s, .slice a y.m c] ∧ KidsAt W y a := by
 obtain ⟨xs, k, hk, hxy, _, hxl, hf⟩ := DataW.trod_struct Tryz.underlying71 h
 match xs, hxl, cs, hlen with
 | [y0, y1, y2, y3], _, [v0, v1, v2, v3], _ =>
   have g0 := hf 0 _ rfl
   have g1 := hf 1 _ rfl
   have g2 := hf 2 _ rfl
   have g3 := hf 3 _ rfl
   simp [kcells_int, xcells_str, xcells_kids] at g0 g1 g2 g3
   obtain ⟨n0, q0, _, _⟩ := DataW.trod_int Tryz.underlying3 g0
   obtain ⟨n1, q1, _, _⟩ := DataW.trod_int Tryz.underlying3 g1
   obtain ⟨s2, q2, _, hs⟩ := DataW.trod_string Tryz.underlying9 g2
   obtain ⟨a, len, cap, kid, rfl, hrow⟩ := ih k (by omega) g3
   simp at q0 q1 q2
   subst q0 q1 q2
   exact ⟨.mk n0 n1 s2 len kid, a, cap, rfl, hs, hrow.1, hrow.2⟩
set_option maxRecDepth 100000 in
theorem open_kids {H : Type} {enc : TypeId × Value → H} {W : World} : ∀ (fuel : Nat) {v : Value} {x : DataW H × List MemPlace}, DataW.trod enc Tryz.prog W 0 (fun _ => true) true fuel 69 [v] = some x → ∃ (a : Option Addr) (len cap : Nat) (kid : Nat → Ex), v = .slice a len cap ∧ KidRow W a len kid := by
 intro fuel
 induction fuel using Nat.strongRecOn with
 | _ fuel ih =>
   intro v x h
   rcases DataW.trod_slice Tryz.underlying69 h with ⟨hcs, _⟩ | ⟨a', len, cap, elems, rest, n, hfu, hcs, _, hb, hl, hm, hlen, hel, _, _⟩
   ·simp at hcs
    exact ⟨none, 0, 0, fun _ => .no, hcs, Nat.zero_le _, .inl rfl⟩
   simp at hcs
   subst hcs
   have each : ∀ i, i < len → ∃ y : Ex, ∃ (aj : Option Addr) (cj : Nat), (W.cell? (a'.add (i * 4)) = some (.int .i64 y.k) ∧ W.cell? (a'.add (i * 4 + 1)) = some (.int .i64 y.n) ∧ W.cell? (a'.add (i * 4 + 2)) = some (.string y.s) ∧ W.cell? (a'.add (i * 4 + 3)) = some (.slice aj y.m cj)) ∧ KidsAt W y aj := by
    intro i hi
    have h1 := hel i hi
    rw [xcells_ex, List.getElem?_eq_getElem (by omega)] at h1
    cases hc : W.cells? 0 (a'.add (i * 4)) 4 with
    | none => rw [hc] at h1; simp at h1
    | some cs' =>
      rw [hc] at h1
      simp only [Option.bind_some] at h1
      obtain ⟨_, hcl, hcell⟩ := World.cells?_some hc
      obtain ⟨y, a, c, hcs, hk⟩ := open_ex_of (fuel := n) (fun k hk => ih k (by omega)) hcl h1
      subst hcs
      have e0 := hcell 0 (by omega)
      have e1 := hcell 1 (by omega)
      have e2 := hcell 2 (by omega)
      have e3 := hcell 3 (by omega)
      rw [Deep.add_add] at e0 e1 e2 e3
      exact ⟨y, a, c, ⟨by simpa using e0, by simpa using e1, by simpa using e2, by simpa using e3⟩, hk⟩
   haveI : Inhabited Ex := ⟨.no⟩
   obtain ⟨q, hq⟩ := Deep.choose_lt each
   refine ⟨some a', len, cap, q, rfl, by omega, ?_⟩
   by_cases h0 : len = 0
   ·exact .inl h0
   ·obtain ⟨b, off, spot⟩ := a'
    obtain ⟨_, _, ⟨hc, _⟩, _⟩ := hq 0 (by omega)
    have hspot : spot = none := by simpa [Addr.add] using World.cell?_spot hc
    subst hspot
    refine .inr ⟨b, off, rfl, blt_of_cell hc, fun j hj => ?_⟩
    obtain ⟨aj, cj, h1, h2⟩ := hq j hj
    simp only [Addr.add_lit] at h1
    exact ⟨aj, cj, by simpa [XCells, Nat.add_assoc] using h1, h2⟩
theorem open_ex {H : Type} {enc : TypeId × Value → H} {W : World} {fuel : Nat} {cs : List Value} {x : DataW H × List MemPlace} (hlen : cs.length = 4) (h : DataW.trod enc Tryz.prog W 0 (fun _ => true) true fuel 71 cs = some x) :
 ∃ (y : Ex) (a : Option Addr) (c : Nat), cs = [.int .i64 y.k, .int .i64 y.n, .string y.s, .slice a y.m c] ∧ KidsAt W y a := open_ex_of (fun k _ => open_kids k) hlen h
def LnIs (w : World) (b o : Nat) (r : Ln) (a : Option Addr) (c : Nat) : Prop := w.cell? ⟨b, o, none⟩ = some (.int .i64 r.kind) ∧ w.cell? ⟨b, o + 1, none⟩ = some (.string r.name) ∧ w.cell? ⟨b, o + 2, none⟩ = some (.int .i64 r.ex.k) ∧ w.cell? ⟨b, o + 3, none⟩ = some (.int .i64 r.ex.n) ∧ w.cell? ⟨b, o + 4, none⟩ = some (.string r.ex.s) ∧ w.cell? ⟨b, o + 5, none⟩ = some (.slice a r.ex.m c)
theorem LnIs.below {B : Nat} {w w' : World} {b o : Nat} {r : Ln} {a : Option Addr} {c : Nat} (h : LnIs w b o r a c) (hb : Below B w w') (hB : b < B) : LnIs w' b o r a c :=
 ⟨(hb.cell (p := ⟨b, o, none⟩) hB).trans h.1, (hb.cell (p := ⟨b, o + 1, none⟩) hB).trans h.2.1, (hb.cell (p := ⟨b, o + 2, none⟩) hB).trans h.2.2.1, (hb.cell (p := ⟨b, o + 3, none⟩) hB).trans h.2.2.2.1, (hb.cell (p := ⟨b, o + 4, none⟩) hB).trans h.2.2.2.2.1, (hb.cell (p := ⟨b, o + 5, none⟩) hB).trans h.2.2.2.2.2⟩
def LnAt (w : World) (b o : Nat) (r : Ln) : Prop := ∃ (a : Option Addr) (c : Nat), LnIs w b o r a c ∧ r.name.size ≤ maxLen ∧ KidsAt w r.ex a
theorem LnAt.below {w w' : World} {b o : Nat} {r : Ln} (h : LnAt w b o r) (hb : Below w.heap.size w w') (hB : b < w.heap.size) : LnAt w' b o r := by
 obtain ⟨a, c, h1, h2, h3⟩ := h
 exact ⟨a, c, h1.below hb hB, h2, h3.below hb⟩
def CameL (w : World) (a : Option Addr) (l : List Ln) : Prop := l.length = 0 ∨ ∃ b off, a = some ⟨b, off, none⟩ ∧ b < w.heap.size ∧ ∀ j, j < l.length → LnAt w b (off + j * 6) (lnth l j)
theorem CameL.below {w w' : World} {a : Option Addr} {l : List Ln} (h : CameL w a l) (hb : Below w.heap.size w w') : CameL w' a l := by
 rcases h with h | ⟨b, off, rfl, hB, h⟩
 ·exact .inl h
 ·exact .inr ⟨b, off, rfl, Nat.lt_of_lt_of_le hB hb.size, fun j hj => (h j hj).below hb hB⟩
theorem CameL.open {w : World} {a : Option Addr} {l : List Ln} (h : CameL w a l) {n : Nat} (hn : l.length = n) (h0 : 0 < n) : ∃ b off, a = some ⟨b, off, none⟩ ∧ ∀ w', Below w.heap.size w w' → ∀ k, k < n → LnAt w' b (off + k * 6) (lnth l k) := by
 rcases h with h | ⟨b, off, rfl, hB, h⟩
 ·omega
 ·exact ⟨b, off, rfl, fun w' hb k hk => (h k (by omega)).below hb hB⟩
set_option maxRecDepth 100000 in
theorem open_lines {H : Type} {enc : TypeId × Value → H} {W : World} {fuel : Nat} {v : Value} {x : DataW H × List MemPlace}
 (h : DataW.trod enc Tryz.prog W 0 (fun _ => true) true fuel 24 [v] = some x) :
 ∃ (a : Option Addr) (len cap : Nat) (l : List Ln), v = .slice a len cap ∧ CameL W a l ∧ l.length = len ∧ len ≤ maxLen := by
 rcases Deep.open_slice Tryz.underlying24 h with ⟨hcs, _⟩ | ⟨a', len, cap, m, n, D, Pl, hcs, hb, hl, hm, hmm, _, hx⟩
 ·simp at hcs
  exact ⟨none, 0, 0, [], hcs, .inl rfl, rfl, Nat.zero_le _⟩
 simp at hcs
 subst hcs
 have hmc : m = cap := by rw [hmm]; simp
 subst hmc
 have each : ∀ i, i < m → ∃ r : Ln, ∃ (a : Option Addr) (c : Nat), (W.cell? (a'.add (i * 6)) = some (.int .i64 r.kind) ∧ W.cell? (a'.add (i * 6 + 1)) = some (.string r.name) ∧ W.cell? (a'.add (i * 6 + 2)) = some (.int .i64 r.ex.k) ∧ W.cell? (a'.add (i * 6 + 3)) = some (.int .i64 r.ex.n) ∧ W.cell? (a'.add (i * 6 + 4)) = some (.string r.ex.s) ∧ W.cell? (a'.add (i * 6 + 5)) = some (.slice a r.ex.m c)) ∧ r.name.size ≤ maxLen ∧ KidsAt W r.ex a := by
  intro i hi
  obtain ⟨cs', h1, h2⟩ := hx i hi
  rw [xcells_ln] at h1
  obtain ⟨_, hlen, hcell⟩ := World.cells?_some h1
  obtain ⟨xs, k, hk, hxy, _, hxl, hf⟩ := DataW.trod_struct Tryz.underlying73 h2
  match xs, hxl, cs', hlen with
  | [y0, y1, y2], _, [v0, v1, v2, v3, v4, v5], _ =>
    have g0 := hf 0 _ rfl
    have g1 := hf 1 _ rfl
    have g2 := hf 2 _ rfl
    simp [kcells_int, xcells_str, xcells_ex] at g0 g1 g2
    obtain ⟨n0, q0, _, w0⟩ := DataW.trod_int Tryz.underlying3 g0
    obtain ⟨s1, q1, _, hs⟩ := DataW.trod_string Tryz.underlying9 g1
    obtain ⟨y, a, c, q2, hk⟩ := open_ex (by rfl) g2
    simp at q0 q1 q2
    obtain ⟨rfl, rfl, rfl, rfl⟩ := q2
    subst q0 q1
    have e0 := hcell 0 (by omega)
    have e1 := hcell 1 (by omega)
    have e2 := hcell 2 (by omega)
    have e3 := hcell 3 (by omega)
    have e4 := hcell 4 (by omega)
    have e5 := hcell 5 (by omega)
    rw [Deep.add_add] at e0 e1 e2 e3 e4 e5
    exact ⟨⟨n0, s1, y⟩, a, c, ⟨by simpa using e0, by simpa using e1, by simpa using e2, by simpa using e3, by simpa using e4, by simpa using e5⟩, hs, hk⟩
 haveI : Inhabited Ln := ⟨⟨0, ⟨#[]⟩, .no⟩⟩
 obtain ⟨q, hq⟩ := Deep.choose_lt each
 have hnth : ∀ j, j < len → lnth ((List.range len).map q) j = q j := by
  intro j hj
  simp [lnth, List.getD_eq_getElem?_getD, hj]
 refine ⟨some a', len, m, (List.range len).map q, rfl, ?_, by simp, by omega⟩
 by_cases h0 : len = 0
 ·exact .inl (by simp [h0])
 ·obtain ⟨b, off, spot⟩ := a'
  obtain ⟨_, _, ⟨hc, _⟩, _⟩ := hq 0 (by omega)
  have hspot : spot = none := by simpa [Addr.add] using World.cell?_spot hc
  subst hspot
  refine .inr ⟨b, off, rfl, blt_of_cell hc, fun j hj => ?_⟩
  have hj' : j < len := by simpa using hj
  obtain ⟨aj, cj, h1, h2, h3⟩ := hq j (by omega)
  simp only [Addr.add_lit] at h1
  rw [hnth j hj']
  exact ⟨aj, cj, by simpa [LnIs, Nat.add_assoc] using h1, h2, h3⟩
end Go.Proofs.YtkalfdjmklakdaaGreatDoor
namespace Go.Proofs.YtkalfdjmklakdaaGreatDoor
open Go.RowKit
def sumN (f : Nat → Nat) : Nat → Nat
 | 0 => 0
 | j + 1 => sumN f j + f j
def maxN (f : Nat → Nat) : Nat → Nat
 | 0 => 0
 | j + 1 => max (maxN f j) (f j)
def firstE (f : Nat → Int) : Nat → Int
 | 0 => 0
 | j + 1 => if firstE f j = 0 then f j else firstE f j
theorem firstE_ok {f : Nat → Int} {j : Nat} (h : firstE f j = 0) : firstE f (j + 1) = f j := by simp [firstE, h]
theorem firstE_err {f : Nat → Int} {m j : Nat} (hj : j < m) (h : firstE f j = 0) (he : f j ≠ 0) : firstE f m = f j := by
 induction m with
 | zero => omega
 | succ q ih =>
   by_cases e : j = q
   ·subst e; exact firstE_ok h
   ·have h' := ih (by omega)
    show (if firstE f q = 0 then f q else firstE f q) = f j
    rw [h', if_neg he]
def Ex.parts : Ex → Nat
 | .no => 1
 | .mk _ _ _ m kid => 1 + sumN (fun j => (kid j).parts) m
def Ex.depth : Ex → Nat
 | .no => 1
 | .mk _ _ _ m kid => 1 + maxN (fun j => (kid j).depth) m
theorem Ex.parts_pos (x : Ex) : 1 ≤ x.parts := by cases x <;> simp [Ex.parts]
theorem Ex.depth_pos (x : Ex) : 1 ≤ x.depth := by cases x <;> simp [Ex.depth]
def kidsI (f : Nat → Int → Int) : Nat → Int → Int
 | 0, l => l
 | j + 1, l => if kidsI f j l < 0 then kidsI f j l else f j (kidsI f j l)
def Ex.left : Ex → Int → Int → Int
 | .no, d, l => if d = 0 ∨ l = 0 then -1 else l - 1
 | .mk _ _ _ m kid, d, l => if d = 0 ∨ l = 0 then -1 else kidsI (fun j r => (kid j).left (d - 1) r) m (l - 1)
theorem kidsI_eq {f : Nat → Int → Int} {dp pt : Nat → Nat} {d : Nat} (hf : ∀ j (l : Nat), f j l = if dp j ≤ d ∧ pt j ≤ l then (l : Int) - pt j else -1) (l : Nat) :
 ∀ m, kidsI f m l = if maxN dp m ≤ d ∧ sumN pt m ≤ l then (l : Int) - sumN pt m else -1 := by
 intro m
 induction m with
 | zero => simp [kidsI, maxN, sumN]
 | succ q ih =>
   have e0 : kidsI f (q + 1) l = if kidsI f q l < 0 then kidsI f q l else f q (kidsI f q l) := rfl
   have e1 : maxN dp (q + 1) = max (maxN dp q) (dp q) := rfl
   have e2 : sumN pt (q + 1) = sumN pt q + pt q := rfl
   rw [e0, ih]
   by_cases h : maxN dp q ≤ d ∧ sumN pt q ≤ l
   ·rw [if_pos h]
    rw [if_neg (by omega), show (l : Int) - (sumN pt q : Nat) = ((l - sumN pt q : Nat) : Int) by omega, hf]
    by_cases h2 : dp q ≤ d ∧ pt q ≤ l - sumN pt q
    ·rw [if_pos h2, if_pos (by omega)]; omega
    ·rw [if_neg h2, if_neg (by omega)]
   ·rw [if_neg h]
    simp only [show ((-1 : Int) < 0) by omega, if_true]
    rw [if_neg (by omega)]
theorem left_eq (x : Ex) : ∀ d l : Nat, x.left d l = if x.depth ≤ d ∧ x.parts ≤ l then (l : Int) - x.parts else -1 := by
 induction x with
 | no =>
   intro d l
   have e0 : Ex.no.left d l = if (d : Int) = 0 ∨ (l : Int) = 0 then -1 else (l : Int) - 1 := by rw [Ex.left]
   have e1 : Ex.no.depth = 1 := by rw [Ex.depth]
   have e2 : Ex.no.parts = 1 := by rw [Ex.parts]
   rw [e0]
   by_cases h : d = 0 ∨ l = 0
   ·rw [if_pos (by omega), if_neg (by omega)]
   ·rw [if_neg (by omega), if_pos (by omega)]; omega
 | mk k n s m kid ih =>
   intro d l
   have e0 : (Ex.mk k n s m kid).left d l = if (d : Int) = 0 ∨ (l : Int) = 0 then -1 else kidsI (fun j r => (kid j).left ((d : Int) - 1) r) m ((l : Int) - 1) := by rw [Ex.left]
   have e1 : (Ex.mk k n s m kid).depth = 1 + maxN (fun j => (kid j).depth) m := by rw [Ex.depth]
   have e2 : (Ex.mk k n s m kid).parts = 1 + sumN (fun j => (kid j).parts) m := by rw [Ex.parts]
   rw [e0]
   by_cases h : d = 0 ∨ l = 0
   ·rw [if_pos (by omega), if_neg (by omega)]
   ·rw [if_neg (by omega), show (l : Int) - 1 = ((l - 1 : Nat) : Int) by omega, kidsI_eq (d := d - 1) (dp := fun j => (kid j).depth) (pt := fun j => (kid j).parts) (fun j l' => ?_) (l - 1) m]
    ·by_cases h2 : maxN (fun j => (kid j).depth) m ≤ d - 1 ∧ sumN (fun j => (kid j).parts) m ≤ l - 1
     ·rw [if_pos h2, if_pos (by omega)]; omega
     ·rw [if_neg h2, if_neg (by omega)]
    ·rw [show (d : Int) - 1 = ((d - 1 : Nat) : Int) by omega]
     exact ih j (d - 1) l'
theorem kidsI_neg {f : Nat → Int → Int} {l : Int} {m j : Nat} (hj : j < m) (h0 : ¬ kidsI f j l < 0) (h : f j (kidsI f j l) < 0) : kidsI f m l = f j (kidsI f j l) := by
 induction m with
 | zero => omega
 | succ q ih =>
   by_cases e : j = q
   ·subst e; simp [kidsI, h0]
   ·have h' := ih (by omega)
    show (if kidsI f q l < 0 then kidsI f q l else f q (kidsI f q l)) = _
    rw [h', if_pos h]
theorem sumN_le {f : Nat → Nat} {j m : Nat} (h : j ≤ m) : sumN f j ≤ sumN f m := by
 induction m with
 | zero => have : j = 0 := by omega
           subst this; exact Nat.le_refl _
 | succ q ih =>
   by_cases e : j = q + 1
   ·subst e; exact Nat.le_refl _
   ·exact Nat.le_trans (ih (by omega)) (by simp [sumN])
theorem maxN_le {f : Nat → Nat} {j m : Nat} (h : j ≤ m) : maxN f j ≤ maxN f m := by
 induction m with
 | zero => have : j = 0 := by omega
           subst this; exact Nat.le_refl _
 | succ q ih =>
   by_cases e : j = q + 1
   ·subst e; exact Nat.le_refl _
   ·exact Nat.le_trans (ih (by omega)) (by simp [maxN]; omega)
theorem sumN_pos {f : Nat → Nat} (hf : ∀ j, 1 ≤ f j) (m : Nat) : m ≤ sumN f m := by
 induction m with
 | zero => exact Nat.zero_le _
 | succ q ih => have := hf q; simp only [sumN]; omega
def kidsOf (k : Int) : Int := if k ≤ 3 then 0 else if k ≤ 6 then 1 else if k ≤ 8 then 2 else if k ≤ 10 then 1 else if k ≤ 12 then 2 else 4
def namedB (k : Int) : Bool := decide (k = 2 ∨ k = 3 ∨ k = 5)
def leastOf (k : Int) : Int := if k = 9 ∨ k = 10 ∨ k = 13 then 1 else 0
def mostOf (k : Int) : Int := if k = 1 then 1000000000000 else if k = 4 ∨ k = 9 ∨ k = 10 then 1000000 else if k = 13 then 3 else 0
def ownE (k n : Int) (s : ByteArray) (m : Nat) : Int :=
 if k < 1 ∨ 13 < k then 7 else if (m : Int) ≠ kidsOf k then 1 else if namedB k = true ∧ ¬ NameP s then 1 else if namedB k = false ∧ s.size ≠ 0 then 1 else if n < leastOf k ∨ mostOf k < n then 3 else 0
def Ex.err : Ex → Int
 | .no => 0
 | .mk k n s m kid => if ownE k n s m = 0 then firstE (fun j => (kid j).err) m else ownE k n s m
end Go.Proofs.YtkalfdjmklakdaaGreatDoor
namespace Go.Proofs.YtkalfdjmklakdaaGreatDoor
open Go.RowKit
structure Tb where
 name : ByteArray
 bks : List Bk
def tnth (l : List Tb) (j : Nat) : Tb := l.getD j ⟨⟨#[]⟩, []⟩
def TbIs (w : World) (b o : Nat) (r : Tb) : Prop := ∃ (a : Option Addr) (c : Nat), w.cell? ⟨b, o, none⟩ = some (.string r.name) ∧ w.cell? ⟨b, o + 1, none⟩ = some (.slice a r.bks.length c) ∧ CameB w a r.bks ∧ r.name.size ≤ maxLen ∧ r.bks.length ≤ maxLen
theorem TbIs.below {w w' : World} {b o : Nat} {r : Tb} (h : TbIs w b o r) (hb : Below w.heap.size w w') (hB : b < w.heap.size) : TbIs w' b o r := by
 obtain ⟨a, c, h1, h2, h3, h4, h5⟩ := h
 exact ⟨a, c, (hb.cell (p := ⟨b, o, none⟩) hB).trans h1, (hb.cell (p := ⟨b, o + 1, none⟩) hB).trans h2, h3.below hb, h4, h5⟩
def CameT (w : World) (a : Option Addr) (l : List Tb) : Prop := l.length = 0 ∨ ∃ b off, a = some ⟨b, off, none⟩ ∧ b < w.heap.size ∧ ∀ j, j < l.length → TbIs w b (off + j * 2) (tnth l j)
theorem CameT.below {w w' : World} {a : Option Addr} {l : List Tb} (h : CameT w a l) (hb : Below w.heap.size w w') : CameT w' a l := by
 rcases h with h | ⟨b, off, rfl, hB, h⟩
 ·exact .inl h
 ·exact .inr ⟨b, off, rfl, Nat.lt_of_lt_of_le hB hb.size, fun j hj => (h j hj).below hb hB⟩
theorem CameT.open {w : World} {a : Option Addr} {l : List Tb} (h : CameT w a l) {n : Nat} (hn : l.length = n) (h0 : 0 < n) : ∃ b off, a = some ⟨b, off, none⟩ ∧ ∀ w', Below w.heap.size w w' → ∀ k, k < n → TbIs w' b (off + k * 2) (tnth l k) := by
 rcases h with h | ⟨b, off, rfl, hB, h⟩
 ·omega
 ·exact ⟨b, off, rfl, fun w' hb k hk => (h k (by omega)).below hb hB⟩
theorem kcells_tb : Tryz.prog.cellsOf 135 = 2 := by kernel_rfl
theorem kcells_am : Tryz.prog.cellsOf 87 = 2 := by kernel_rfl
theorem kcells_st : Tryz.prog.cellsOf 9 = 1 := by kernel_rfl
theorem kcells_bs : Tryz.prog.cellsOf 133 = 1 := by kernel_rfl
set_option maxRecDepth 100000 in
theorem open_tbs {H : Type} {enc : TypeId × Value → H} {W : World} {fuel : Nat} {v : Value} {x : DataW H × List MemPlace}
 (h : DataW.trod enc Tryz.prog W 0 (fun _ => true) true fuel 25 [v] = some x) :
 ∃ (a : Option Addr) (len cap : Nat) (l : List Tb), v = .slice a len cap ∧ CameT W a l ∧ l.length = len ∧ len ≤ maxLen := by
 rcases Deep.open_slice Tryz.underlying25 h with ⟨hcs, _⟩ | ⟨a', len, cap, m, n, D, Pl, hcs, hb, hl, hm, hmm, _, hx⟩
 ·simp at hcs
  exact ⟨none, 0, 0, [], hcs, .inl rfl, rfl, Nat.zero_le _⟩
 simp at hcs
 subst hcs
 have hmc : m = cap := by rw [hmm]; simp
 subst hmc
 have each : ∀ i, i < m → ∃ r : Tb, ∃ (a : Option Addr) (c : Nat), W.cell? (a'.add (i * 2)) = some (.string r.name) ∧ W.cell? (a'.add (i * 2 + 1)) = some (.slice a r.bks.length c) ∧ CameB W a r.bks ∧ r.name.size ≤ maxLen ∧ r.bks.length ≤ maxLen := by
  intro i hi
  obtain ⟨cs', h1, h2⟩ := hx i hi
  rw [kcells_tb] at h1
  obtain ⟨_, hlen, hcell⟩ := World.cells?_some h1
  obtain ⟨xs, k, hk, hxy, _, hxl, hf⟩ := DataW.trod_struct Tryz.underlying135 h2
  match xs, hxl, cs', hlen with
  | [y0, y1], _, [v0, v1], _ =>
    have g0 := hf 0 _ rfl
    have g1 := hf 1 _ rfl
    simp [kcells_st, kcells_bs] at g0 g1
    obtain ⟨s0, q0, _, hs⟩ := DataW.trod_string Tryz.underlying9 g0
    obtain ⟨a, ln, c, l, rfl, hc, hn, hm⟩ := open_bks g1
    simp at q0
    subst q0
    subst hn
    have e0 := hcell 0 (by omega)
    have e1 := hcell 1 (by omega)
    rw [Deep.add_add] at e0 e1
    exact ⟨⟨s0, l⟩, a, c, by simpa using e0, by simpa using e1, hc, hs, hm⟩
 haveI : Inhabited Tb := ⟨⟨⟨#[]⟩, []⟩⟩
 obtain ⟨q, hq⟩ := Deep.choose_lt each
 have hnth : ∀ j, j < len → tnth ((List.range len).map q) j = q j := by
  intro j hj
  simp [tnth, List.getD_eq_getElem?_getD, hj]
 refine ⟨some a', len, m, (List.range len).map q, rfl, ?_, by simp, by omega⟩
 by_cases h0 : len = 0
 ·exact .inl (by simp [h0])
 ·obtain ⟨b, off, spot⟩ := a'
  obtain ⟨_, _, hc, _⟩ := hq 0 (by omega)
  have hspot : spot = none := by simpa [Addr.add] using World.cell?_spot hc
  subst hspot
  refine .inr ⟨b, off, rfl, blt_of_cell hc, fun j hj => ?_⟩
  have hj' : j < len := by simpa using hj
  obtain ⟨aj, cj, h1, h2, h3⟩ := hq j (by omega)
  simp only [Addr.add_lit] at h1 h2
  rw [hnth j hj']
  exact ⟨aj, cj, by simpa [Nat.add_assoc] using h1, by simpa [Nat.add_assoc] using h2, h3⟩
def NamesFit (l : List Am) : Prop := ∀ j, j < l.length → (anth l j).name.size ≤ maxLen
set_option maxRecDepth 100000 in
theorem open_ams {H : Type} {enc : TypeId × Value → H} {W : World} {fuel : Nat} {v : Value} {x : DataW H × List MemPlace}
 (h : DataW.trod enc Tryz.prog W 0 (fun _ => true) true fuel 82 [v] = some x) :
 ∃ (a : Option Addr) (len cap : Nat) (l : List Am), v = .slice a len cap ∧ CameA W a l ∧ NamesFit l ∧ l.length = len ∧ len ≤ maxLen := by
 rcases Deep.open_slice Tryz.underlying82 h with ⟨hcs, _⟩ | ⟨a', len, cap, m, n, D, Pl, hcs, hb, hl, hm, hmm, _, hx⟩
 ·simp at hcs
  exact ⟨none, 0, 0, [], hcs, .inl rfl, fun j hj => by simp at hj, rfl, Nat.zero_le _⟩
 simp at hcs
 subst hcs
 have hmc : m = cap := by rw [hmm]; simp
 subst hmc
 have each : ∀ i, i < m → ∃ r : Am, W.cell? (a'.add (i * 2)) = some (.string r.name) ∧ W.cell? (a'.add (i * 2 + 1)) = some (.int .i64 r.mon) ∧ r.name.size ≤ maxLen := by
  intro i hi
  obtain ⟨cs', h1, h2⟩ := hx i hi
  rw [kcells_am] at h1
  obtain ⟨_, hlen, hcell⟩ := World.cells?_some h1
  obtain ⟨xs, k, hk, hxy, _, hxl, hf⟩ := DataW.trod_struct Tryz.underlying87 h2
  match xs, hxl, cs', hlen with
  | [y0, y1], _, [v0, v1], _ =>
    have g0 := hf 0 _ rfl
    have g1 := hf 1 _ rfl
    simp [kcells_st, kcells_int] at g0 g1
    obtain ⟨s0, q0, _, hs⟩ := DataW.trod_string Tryz.underlying9 g0
    obtain ⟨n1, q1, _, _⟩ := DataW.trod_int Tryz.underlying3 g1
    simp at q0 q1
    subst q0 q1
    have e0 := hcell 0 (by omega)
    have e1 := hcell 1 (by omega)
    rw [Deep.add_add] at e0 e1
    exact ⟨⟨s0, n1⟩, by simpa using e0, by simpa using e1, hs⟩
 haveI : Inhabited Am := ⟨⟨⟨#[]⟩, 0⟩⟩
 obtain ⟨q, hq⟩ := Deep.choose_lt each
 have hnth : ∀ j, j < len → anth ((List.range len).map q) j = q j := by
  intro j hj
  simp [anth, List.getD_eq_getElem?_getD, hj]
 refine ⟨some a', len, m, (List.range len).map q, rfl, ?_, ?_, by simp, by omega⟩
 ·by_cases h0 : len = 0
  ·exact .inl (by simp [h0])
  ·obtain ⟨b, off, spot⟩ := a'
   have hc := (hq 0 (by omega)).1
   have hspot : spot = none := by simpa [Addr.add] using World.cell?_spot hc
   subst hspot
   refine .inr ⟨b, off, rfl, blt_of_cell hc, fun j hj => ?_⟩
   have hj' : j < len := by simpa using hj
   obtain ⟨h1, h2, _⟩ := hq j (by omega)
   simp only [Addr.add_lit] at h1 h2
   rw [hnth j hj']
   exact ⟨by simpa [Nat.add_assoc] using h1, by simpa [Nat.add_assoc] using h2⟩
 ·intro j hj
  have hj' : j < len := by simpa using hj
  rw [hnth j hj']
  exact (hq j (by omega)).2.2
end Go.Proofs.YtkalfdjmklakdaaGreatDoor
namespace Go.Proofs.YtkalfdjmklakdaaGreatDoor
open Go.RowKit Go.Sort
def leS (a b : ByteArray) : Bool := Op.bytesLess a.toList b.toList || a.toList == b.toList
def upN (f : Nat → ByteArray) (n : Nat) : Bool := (List.range (n - 1)).all fun j => !leS (f (j + 1)) (f j)
theorem upN_iff {f : Nat → ByteArray} {n : Nat} : upN f n = true ↔ ∀ j, j + 1 < n → leS (f (j + 1)) (f j) = false := by
 unfold upN
 rw [List.all_eq_true]
 constructor
 ·intro h j hj
  have := h j (List.mem_range.2 (by omega))
  simpa using this
 ·intro h j hj
  have := h j (by have := List.mem_range.1 hj; omega)
  simpa using this
theorem upN_not {f : Nat → ByteArray} {n : Nat} {j : Nat} (hj : j + 1 < n) (h : leS (f (j + 1)) (f j) = true) : upN f n = false := by
 rw [Bool.eq_false_iff]
 intro e
 have := upN_iff.1 e j hj
 rw [h] at this
 cases this
set_option maxHeartbeats 1000000 in
theorem amountName_any (s : ByteArray) (m : Int) (w : World) :
 Calls Tryz.prog 251 #[.agg #[.string s, .int .i64 m]] w fun e w' => e = .returned (.string s) ∧ Below w.heap.size w w' := by
 go_enter Tryz.func251, Tryz.ntmps251
 go_wp2_with fail
 go_ret
 exact ⟨rfl, kbelow_box _ _⟩
set_option maxHeartbeats 1000000 in
theorem tableName_any (s : ByteArray) (a : Option Addr) (n c : Nat) (w : World) :
 Calls Tryz.prog 254 #[.agg #[.string s, .slice a n c]] w fun e w' => e = .returned (.string s) ∧ Below w.heap.size w w' := by
 go_enter Tryz.func254, Tryz.ntmps254
 go_wp2_with fail
 go_ret
 exact ⟨rfl, kbelow_box _ _⟩
set_option maxRecDepth 100000 in
set_option maxHeartbeats 2000000 in
theorem riseA_any (a : Option Addr) (n cap : Nat) (l : List Am) (w : World) (hc : CameA w a l) (hn : l.length = n) (hm : n ≤ maxLen) :
 Calls Tryz.prog 196 #[.slice a n cap, .func (.func 251) #[] #[]] w fun e w' => e = .returned (.bool (upN (fun j => (anth l j).name) n)) ∧ Below w.heap.size w w' := by
 have hm' : n ≤ 9223372036854775807 := by unfold maxLen at hm; omega
 have HO := Lib.hid (fun h0 => hc.open hn h0)
 clear hm hc
 go_enter Tryz.func196, Tryz.ntmps196
 go_wp2_with fail
 go_loopw [5] (fun i wr => ∃ r : Nat, (r + 1 ≤ n ∨ r = 0) ∧ i = .int .i64 ((r : Int) + 1) ∧ Below w.heap.size w wr ∧ ∀ j, j < r → leS (anth l (j + 1)).name (anth l j).name = false) (fun i _ => n - (intOf i).toNat)
 case atStart => exact ⟨0, .inr rfl, rfl, Below.refl _ _, fun j hj => by omega⟩
 case round =>
  obtain ⟨r, hrk, rfl, hb, hall⟩ := hrel
  have HA := Lib.hid hall
  have HB := Lib.hid hb
  clear hall hb
  by_cases hlt : r + 1 < n
  ·have hlt' : (r : Int) + 1 < (n : Int) := by omega
   have hlt0 : (r : Int) < (n : Int) := by omega
   obtain ⟨b, off, rfl, hcell⟩ := HO.out (by omega)
   obtain ⟨x0, x1⟩ := hcell _ HB.out r (by omega)
   obtain ⟨y0, y1⟩ := hcell _ HB.out (r + 1) (by omega)
   clear hcell
   have htn : ((r : Int) + 1).toNat = r + 1 := by omega
   have hi0 : (0 : Int) ≤ (r : Int) + 1 := by omega
   have hr0 : (0 : Int) ≤ (r : Int) := by omega
   have hwr : IntKind.i64.wrap (r : Int) = (r : Int) := IntWalk.i64_in _ (by omega)
   have hwd : IntKind.i64.wrap ((r : Int) + 1 - 1) = (r : Int) := by rw [show (r : Int) + 1 - 1 = r by omega]; exact hwr
   have hd0 : (0 : Int) ≤ (r : Int) + 1 - 1 := by omega
   have hdn : (r : Int) + 1 - 1 < (n : Int) := by omega
   have hdt : ((r : Int) + 1 - 1).toNat = r := by omega
   have k0 := cell_regrown x0
   have k1 := cell_regrown x1
   have k2 := cell_regrown y0
   have k3 := cell_regrown y1
   cases hle : leS (anth l (r + 1)).name (anth l r).name
   ·unfold leS at hle
    go_wp2_with fail
    refine wp_region_quiet_below (by kernel_rfl) (by kernel_rfl) ?_
    repeat (quiet_step (exact Calls.regrown_of (amountName_any _ _ _)))
    refine wpQuiet_nil ?_
    intro _ hw'
    obtain ⟨⟨dq, osq⟩, hw''⟩ := hw'
    subst hw''
    go_wp2_with fail
    go_roundw
    case rel =>
     refine ⟨r + 1, .inl (by omega), by go_num, HB.out.trans ((below_regrown wr dq osq).mono HB.out.size), ?_⟩
     intro j hj
     by_cases e : j = r
     ·subst e; exact hle
     ·exact HA.out j (by omega)
    case measure => simp [intOf]; omega
   ·have HF := Lib.hid (upN_not (f := fun j => (anth l j).name) (n := n) hlt hle)
    unfold leS at hle
    go_wp2_with fail
    refine wp_region_quiet_below (by kernel_rfl) (by kernel_rfl) ?_
    repeat (quiet_step (exact Calls.regrown_of (amountName_any _ _ _)))
    refine wpQuiet_nil ?_
    intro _ hw'
    obtain ⟨⟨dq, osq⟩, hw''⟩ := hw'
    subst hw''
    go_wp2_with fail
    go_ret
    exact ⟨kret_bool HF.out.symm, HB.out.trans ((below_regrown wr dq osq).mono HB.out.size)⟩
  ·have hnl : ¬ ((r : Int) + 1 < (n : Int)) := by omega
   have HF := Lib.hid (upN_iff (f := fun j => (anth l j).name) (n := n).2 (fun j hj => HA.out j (by omega)))
   go_wp2_with fail
   go_ret
   exact ⟨kret_bool HF.out.symm, HB.out⟩
set_option maxRecDepth 100000 in
set_option maxHeartbeats 2000000 in
theorem riseT_any (a : Option Addr) (n cap : Nat) (l : List Tb) (w : World) (hc : CameT w a l) (hn : l.length = n) (hm : n ≤ maxLen) :
 Calls Tryz.prog 253 #[.slice a n cap, .func (.func 254) #[] #[]] w fun e w' => e = .returned (.bool (upN (fun j => (tnth l j).name) n)) ∧ Below w.heap.size w w' := by
 have hm' : n ≤ 9223372036854775807 := by unfold maxLen at hm; omega
 have HO := Lib.hid (fun h0 => hc.open hn h0)
 clear hm hc
 go_enter Tryz.func253, Tryz.ntmps253
 go_wp2_with fail
 go_loopw [5] (fun i wr => ∃ r : Nat, (r + 1 ≤ n ∨ r = 0) ∧ i = .int .i64 ((r : Int) + 1) ∧ Below w.heap.size w wr ∧ ∀ j, j < r → leS (tnth l (j + 1)).name (tnth l j).name = false) (fun i _ => n - (intOf i).toNat)
 case atStart => exact ⟨0, .inr rfl, rfl, Below.refl _ _, fun j hj => by omega⟩
 case round =>
  obtain ⟨r, hrk, rfl, hb, hall⟩ := hrel
  have HA := Lib.hid hall
  have HB := Lib.hid hb
  clear hall hb
  by_cases hlt : r + 1 < n
  ·have hlt' : (r : Int) + 1 < (n : Int) := by omega
   have hlt0 : (r : Int) < (n : Int) := by omega
   obtain ⟨b, off, rfl, hcell⟩ := HO.out (by omega)
   obtain ⟨ax, cx, x0, x1, _⟩ := hcell _ HB.out r (by omega)
   obtain ⟨ay, cy, y0, y1, _⟩ := hcell _ HB.out (r + 1) (by omega)
   clear hcell
   have htn : ((r : Int) + 1).toNat = r + 1 := by omega
   have hi0 : (0 : Int) ≤ (r : Int) + 1 := by omega
   have hr0 : (0 : Int) ≤ (r : Int) := by omega
   have hwr : IntKind.i64.wrap (r : Int) = (r : Int) := IntWalk.i64_in _ (by omega)
   have hwd : IntKind.i64.wrap ((r : Int) + 1 - 1) = (r : Int) := by rw [show (r : Int) + 1 - 1 = r by omega]; exact hwr
   have hd0 : (0 : Int) ≤ (r : Int) + 1 - 1 := by omega
   have hdn : (r : Int) + 1 - 1 < (n : Int) := by omega
   have hdt : ((r : Int) + 1 - 1).toNat = r := by omega
   have k0 := cell_regrown x0
   have k1 := cell_regrown x1
   have k2 := cell_regrown y0
   have k3 := cell_regrown y1
   cases hle : leS (tnth l (r + 1)).name (tnth l r).name
   ·unfold leS at hle
    go_wp2_with fail
    refine wp_region_quiet_below (by kernel_rfl) (by kernel_rfl) ?_
    repeat (quiet_step (exact Calls.regrown_of (tableName_any _ _ _ _ _)))
    refine wpQuiet_nil ?_
    intro _ hw'
    obtain ⟨⟨dq, osq⟩, hw''⟩ := hw'
    subst hw''
    go_wp2_with fail
    go_roundw
    case rel =>
     refine ⟨r + 1, .inl (by omega), by go_num, HB.out.trans ((below_regrown wr dq osq).mono HB.out.size), ?_⟩
     intro j hj
     by_cases e : j = r
     ·subst e; exact hle
     ·exact HA.out j (by omega)
    case measure => simp [intOf]; omega
   ·have HF := Lib.hid (upN_not (f := fun j => (tnth l j).name) (n := n) hlt hle)
    unfold leS at hle
    go_wp2_with fail
    refine wp_region_quiet_below (by kernel_rfl) (by kernel_rfl) ?_
    repeat (quiet_step (exact Calls.regrown_of (tableName_any _ _ _ _ _)))
    refine wpQuiet_nil ?_
    intro _ hw'
    obtain ⟨⟨dq, osq⟩, hw''⟩ := hw'
    subst hw''
    go_wp2_with fail
    go_ret
    exact ⟨kret_bool HF.out.symm, HB.out.trans ((below_regrown wr dq osq).mono HB.out.size)⟩
  ·have hnl : ¬ ((r : Int) + 1 < (n : Int)) := by omega
   have HF := Lib.hid (upN_iff (f := fun j => (tnth l j).name) (n := n).2 (fun j hj => HA.out j (by omega)))
   go_wp2_with fail
   go_ret
   exact ⟨kret_bool HF.out.symm, HB.out⟩
end Go.Proofs.YtkalfdjmklakdaaGreatDoor
namespace Go.Proofs.YtkalfdjmklakdaaGreatDoor
open Go.RowKit
theorem isMoney_ref (n : Int) (w : World) : Calls Tryz.prog 68 #[.int .i64 n] w fun e w' => e = .returned (.bool (monB n)) ∧ w' = w := by
 by_cases h1 : -1000000000000 ≤ n
 ·by_cases h2 : n ≤ 1000000000000
  ·have H : Hid (monB n = true) := decide_eq_true ⟨h1, h2⟩
   go_enter Tryz.func68, Tryz.ntmps68
   go_wp2
   go_ret
   exact ⟨ret_bool (by rw [H.out]; try (simp <;> omega)), rfl⟩
  ·have H : Hid (monB n = false) := decide_eq_false (by omega)
   go_enter Tryz.func68, Tryz.ntmps68
   go_wp2
   go_ret
   exact ⟨ret_bool (by rw [H.out]; try (simp <;> omega)), rfl⟩
 ·have H : Hid (monB n = false) := decide_eq_false (by omega)
  have hd : decide (-1000000000000 ≤ n) = false := decide_eq_false h1
  go_enter Tryz.func68, Tryz.ntmps68
  go_wp2
  go_ret
  exact ⟨ret_bool (by rw [H.out]), rfl⟩
def paE (a r way : Int) : Int := if wayB way = true then (if monB a = true ∧ ratB r = true then 0 else 3) else 7
def paN (a r way : Int) : Int := if wayB way = true ∧ monB a = true ∧ ratB r = true then rd (a * r) 10000 way else 0
theorem pa_zero {a r way : Int} (h : paE a r way ≠ 0) : paN a r way = 0 := by
 unfold paE at h
 unfold paN
 rw [if_neg]
 rintro ⟨h1, h2⟩
 simp [h1, h2] at h
theorem monB_iff {x : Int} : monB x = true ↔ -1000000000000 ≤ x ∧ x ≤ 1000000000000 := by unfold monB; exact decide_eq_true_iff
theorem ratB_iff' {x : Int} : ratB x = true ↔ 0 ≤ x ∧ x ≤ 1000000 := by unfold ratB; exact decide_eq_true_iff
theorem prod_bd {a r : Int} (h1 : -1000000000000 ≤ a) (h2 : a ≤ 1000000000000) (h3 : 0 ≤ r) (h4 : r ≤ 1000000) : -1000000000000000000 ≤ a * r ∧ a * r ≤ 1000000000000000000 := by
 have x1 : a * r ≤ 1000000000000 * r := Int.mul_le_mul_of_nonneg_right h2 h3
 have x2 : -1000000000000 * r ≤ a * r := Int.mul_le_mul_of_nonneg_right h1 h3
 omega
end Go.Proofs.YtkalfdjmklakdaaGreatDoor
namespace Go.Proofs.YtkalfdjmklakdaaGreatDoor
open Go.RowKit Go.Sort
def amsE (l : List Am) : Int := if ansB l = false then 1 else if amsB l = false then 3 else if upN (fun j => (anth l j).name) l.length = false then 6 else 0
theorem amsE_bd (l : List Am) : 0 ≤ amsE l ∧ amsE l ≤ 6 := by
 unfold amsE
 (repeat' split) <;> omega
set_option maxRecDepth 100000 in
set_option maxHeartbeats 1000000 in
theorem checkAmounts_any (a : Option Addr) (n cap : Nat) (l : List Am) (w : World) (hc : CameA w a l) (hn : l.length = n) (hm : n ≤ maxLen) :
 Calls Tryz.prog 225 #[.slice a n cap] w fun e w' => e = .returned (.int .i64 (amsE l)) ∧ Below w.heap.size w w' := by
 have HC := Lib.hid hc
 have HM := Lib.hid hm
 have HE : Hid (amsE l = if ansB l = false then 1 else if amsB l = false then 3 else if upN (fun j => (anth l j).name) n = false then 6 else 0) := by unfold Hid amsE; rw [hn]
 clear hm hc
 go_enter Tryz.func225, Tryz.ntmps225
 go_wp2_with fail
 refine (containsNames a n cap l _ HC.out hn HM.out).mono ?_
 rintro e w1 ⟨rfl, hb1⟩
 have HB1 := Lib.hid hb1
 clear hb1
 cases h1 : ansB l
 ·rw [h1] at HE
  go_wp2_with fail
  go_ret
  exact ⟨kret_int HE.out.symm, HB1.out⟩
 ·go_wp2_with fail
  refine (containsMoney a n cap l _ (HC.out.below HB1.out) hn HM.out).mono ?_
  rintro e w2 ⟨rfl, hb2⟩
  have HB2 := Lib.hid (HB1.out.trans (hb2.mono HB1.out.size))
  clear hb2
  cases h2 : amsB l
  ·rw [h1, h2] at HE
   go_wp2_with fail
   go_ret
   exact ⟨kret_int HE.out.symm, HB2.out⟩
  ·go_wp2_with fail
   refine (riseA_any a n cap l _ (HC.out.below HB2.out) hn HM.out).mono ?_
   rintro e w3 ⟨rfl, hb3⟩
   have HB3 := Lib.hid (HB2.out.trans (hb3.mono HB2.out.size))
   clear hb3
   rw [h1, h2] at HE
   cases h3 : upN (fun j => (anth l j).name) n
   ·rw [h3] at HE
    go_wp2_with fail
    go_ret
    exact ⟨kret_int HE.out.symm, HB3.out⟩
   ·rw [h3] at HE
    go_wp2_with fail
    go_ret
    exact ⟨kret_int HE.out.symm, HB3.out⟩
def farK (l : List Am) (k : Nat) : Bool := (List.range k).any fun j => !amB (anth l j)
def twiceK (f : Nat → ByteArray) (k : Nat) : Bool := (List.range k).any fun j => decide (0 < j) && leS (f j) (f (j - 1))
theorem farK_succ (l : List Am) (k : Nat) : farK l (k + 1) = (farK l k || !amB (anth l k)) := by simp [farK, List.range_succ]
theorem twiceK_succ (f : Nat → ByteArray) (k : Nat) : twiceK f (k + 1) = (twiceK f k || (decide (0 < k) && leS (f k) (f (k - 1)))) := by simp [twiceK, List.range_succ]
theorem farK_all {l : List Am} {n : Nat} (hn : l.length = n) : farK l n = !amsB l := by
 subst hn
 cases h : amsB l
 ·cases e : farK l l.length
  ·exfalso
   have : amsB l = true := all_of (P := amB) (l := l) (fun j hj => by
    unfold farK at e
    rw [List.any_eq_false] at e
    have := e j (List.mem_range.2 hj)
    simpa using this)
   rw [h] at this; cases this
  ·rfl
 ·show farK l l.length = false
  unfold farK
  rw [List.any_eq_false]
  intro j hj
  have := all_nth (P := amB) (l := l) h (List.mem_range.1 hj)
  simp [this]
theorem twiceK_all (f : Nat → ByteArray) (n : Nat) : twiceK f n = !upN f n := by
 cases h : upN f n
 ·cases e : twiceK f n
  ·exfalso
   have : upN f n = true := upN_iff.2 (fun j hj => by
    unfold twiceK at e
    rw [List.any_eq_false] at e
    have := e (j + 1) (List.mem_range.2 hj)
    simpa using this)
   rw [h] at this; cases this
  ·rfl
 ·show twiceK f n = false
  unfold twiceK
  rw [List.any_eq_false]
  intro j hj
  have hj' := List.mem_range.1 hj
  by_cases h0 : j = 0
  ·simp [h0]
  ·have := upN_iff.1 h (j - 1) (by omega)
   rw [show j - 1 + 1 = j by omega] at this
   simp [this]
end Go.Proofs.YtkalfdjmklakdaaGreatDoor
namespace Go.Proofs.YtkalfdjmklakdaaGreatDoor
open Go.RowKit Go.Sort
set_option maxRecDepth 100000 in
set_option maxHeartbeats 4000000 in
theorem checkAmounts_ref (a : Option Addr) (n cap : Nat) (l : List Am) (w : World) (hc : CameA w a l) (hfit : NamesFit l) (hn : l.length = n) (hm : n ≤ maxLen) :
 Calls Tryz.prog 202 #[.slice a n cap] w fun e w' => e = .returned (.int .i64 (amsE l)) ∧ Below w.heap.size w w' := by
 have hm' : n ≤ 9223372036854775807 := by unfold maxLen at hm; omega
 have HFIT := Lib.hid hfit
 have HN := Lib.hid hn
 have HC := Lib.hid (fun h0 => hc.open hn h0)
 have HE : Hid (amsE l = if ansB l = false then 1 else if amsB l = false then 3 else if upN (fun j => (anth l j).name) n = false then 6 else 0) := by unfold Hid amsE; rw [hn]
 clear hm hc hfit hn
 go_enter Tryz.func202, Tryz.ntmps202
 go_wp2_with fail
 go_loopw [3, 4, 5] (fun fv tv i wr => ∃ (k : Nat) (f t : Bool), k ≤ n ∧ fv = .bool f ∧ tv = .bool t ∧ i = .int .i64 k ∧ farK l k = f ∧ twiceK (fun j => (anth l j).name) k = t ∧ (∀ j, j < k → anB (anth l j) = true) ∧ Below w.heap.size w wr) (fun _ _ i _ => n - (intOf i).toNat)
 case atStart => exact ⟨0, false, false, Nat.zero_le _, rfl, rfl, rfl, rfl, rfl, fun j hj => by omega, Below.refl _ _⟩
 case round =>
  obtain ⟨k, f, t, hk, rfl, rfl, rfl, hf, ht, hall, hb⟩ := hrel
  have HF := Lib.hid hf
  have HT := Lib.hid ht
  have HA := Lib.hid hall
  have HB := Lib.hid hb
  clear hf ht hall hb
  by_cases hlt : k < n
  ·have hlt' : (k : Int) < (n : Int) := by omega
   obtain ⟨b, off, rfl, hcell⟩ := HC.out (by omega)
   have HO := Lib.hid hcell
   clear hcell
   obtain ⟨x0, x1⟩ := HO.out wr HB.out k hlt
   go_wp2_with fail
   refine (isName_ref _ _ (by have := HFIT.out k (by have := HN.out; omega); unfold maxLen at this; omega)).mono ?_
   rintro e w1 ⟨bn, rfl, hbn, hbel⟩
   have HB2 := Lib.hid (HB.out.trans (hbel.mono HB.out.size))
   clear hbel x0 x1
   obtain ⟨x0, x1⟩ := HO.out w1 HB2.out k hlt
   cases bn
   ·have HR : Hid (amsE l = 1) := by
     unfold Hid
     rw [HE.out]
     exact if_pos (all_not (P := anB) (l := l) (j := k) (by have := HN.out; omega) (decide_eq_false (fun h => by have := hbn.2 h; cases this)))
    clear hbn
    go_wp2_with fail
    go_ret
    exact ⟨kret_int HR.out.symm, HB2.out⟩
   ·have HY : Hid (∀ j, j < k + 1 → anB (anth l j) = true) := fun j hj => by
     by_cases e : j = k
     ·subst e; exact decide_eq_true (hbn.1 rfl)
     ·exact HA.out j (by omega)
    clear hbn
    cases f
    ·go_wp2_with fail
     refine (isMoney_ref _ _).mono ?_
     rintro e w2 ⟨rfl, h'⟩
     subst w2
     have HFM : Hid (farK l (k + 1) = !monB (anth l k).mon) := by unfold Hid; rw [farK_succ, HF.out]; rfl
     cases hmb : monB (anth l k).mon
     ·have HFN : Hid (farK l (k + 1) = true) := by unfold Hid; rw [HFM.out, hmb]; rfl
      cases t
      ·by_cases hk0 : k = 0
       ·subst hk0
        have HTN : Hid (twiceK (fun j => (anth l j).name) (0 + 1) = false) := by unfold Hid; rw [twiceK_succ, HT.out]; simp
        go_wp2_with fail
        go_quiet (fail)
        go_wp2_with fail
        go_roundw
        case rel => exact ⟨0 + 1, true, false, by omega, rfl, rfl, by go_num, HFN.out, HTN.out, HY.out, kbelow_dN HB2.out _⟩
        case measure => simp [intOf]; omega
       ·obtain ⟨q, rfl⟩ : ∃ q, k = q + 1 := ⟨k - 1, by omega⟩
        obtain ⟨z0, _⟩ := HO.out _ HB2.out q (by omega)
        rw [show ((q + 1 : Nat) : Int) = (q : Int) + 1 by omega]
        rw [show ((q + 1 : Nat) : Int) = (q : Int) + 1 by omega] at hlt'
        have hsub : (q : Int) + 1 - 1 = (q : Int) := by omega
        have htn : ((q : Int) + 1).toNat = q + 1 := by omega
        have hlq : (q : Int) < (n : Int) := by omega
        have hpB : decide ((0 : Int) < (q : Int) + 1) = true := decide_eq_true (by omega)
        have hp' : (0 : Int) < (q : Int) + 1 := by omega
        cases hle : leS (anth l (q + 1)).name (anth l q).name
        ·have HTN : Hid (twiceK (fun j => (anth l j).name) (q + 1 + 1) = false) := by unfold Hid; rw [twiceK_succ, HT.out]; simp [hle]
         unfold leS at hle
         go_wp2_with fail
         go_quiet (fail)
         go_wp2_with fail
         go_roundw
         case rel => exact ⟨q + 1 + 1, true, false, by omega, rfl, rfl, by go_num, HFN.out, HTN.out, HY.out, kbelow_dN HB2.out _⟩
         case measure => simp [intOf]; omega
        ·have HTN : Hid (twiceK (fun j => (anth l j).name) (q + 1 + 1) = true) := by unfold Hid; rw [twiceK_succ, HT.out]; simp [hle]
         unfold leS at hle
         go_wp2_with fail
         go_quiet (fail)
         go_wp2_with fail
         go_roundw
         case rel => exact ⟨q + 1 + 1, true, true, by omega, rfl, rfl, by go_num, HFN.out, HTN.out, HY.out, kbelow_dN HB2.out _⟩
         case measure => simp [intOf]; omega
      ·have HTN : Hid (twiceK (fun j => (anth l j).name) (k + 1) = true) := by unfold Hid; rw [twiceK_succ, HT.out]; simp
       go_wp2_with fail
       go_quiet (fail)
       go_wp2_with fail
       go_roundw
       case rel => exact ⟨k + 1, true, true, by omega, rfl, rfl, by go_num, HFN.out, HTN.out, HY.out, kbelow_dN HB2.out _⟩
       case measure => simp [intOf]; omega
     ·have HFN : Hid (farK l (k + 1) = false) := by unfold Hid; rw [HFM.out, hmb]; rfl
      cases t
      ·by_cases hk0 : k = 0
       ·subst hk0
        have HTN : Hid (twiceK (fun j => (anth l j).name) (0 + 1) = false) := by unfold Hid; rw [twiceK_succ, HT.out]; simp
        go_wp2_with fail
        go_quiet (fail)
        go_wp2_with fail
        go_roundw
        case rel => exact ⟨0 + 1, false, false, by omega, rfl, rfl, by go_num, HFN.out, HTN.out, HY.out, kbelow_dN HB2.out _⟩
        case measure => simp [intOf]; omega
       ·obtain ⟨q, rfl⟩ : ∃ q, k = q + 1 := ⟨k - 1, by omega⟩
        obtain ⟨z0, _⟩ := HO.out _ HB2.out q (by omega)
        rw [show ((q + 1 : Nat) : Int) = (q : Int) + 1 by omega]
        rw [show ((q + 1 : Nat) : Int) = (q : Int) + 1 by omega] at hlt'
        have hsub : (q : Int) + 1 - 1 = (q : Int) := by omega
        have htn : ((q : Int) + 1).toNat = q + 1 := by omega
        have hlq : (q : Int) < (n : Int) := by omega
        have hpB : decide ((0 : Int) < (q : Int) + 1) = true := decide_eq_true (by omega)
        have hp' : (0 : Int) < (q : Int) + 1 := by omega
        cases hle : leS (anth l (q + 1)).name (anth l q).name
        ·have HTN : Hid (twiceK (fun j => (anth l j).name) (q + 1 + 1) = false) := by unfold Hid; rw [twiceK_succ, HT.out]; simp [hle]
         unfold leS at hle
         go_wp2_with fail
         go_quiet (fail)
         go_wp2_with fail
         go_roundw
         case rel => exact ⟨q + 1 + 1, false, false, by omega, rfl, rfl, by go_num, HFN.out, HTN.out, HY.out, kbelow_dN HB2.out _⟩
         case measure => simp [intOf]; omega
        ·have HTN : Hid (twiceK (fun j => (anth l j).name) (q + 1 + 1) = true) := by unfold Hid; rw [twiceK_succ, HT.out]; simp [hle]
         unfold leS at hle
         go_wp2_with fail
         go_quiet (fail)
         go_wp2_with fail
         go_roundw
         case rel => exact ⟨q + 1 + 1, false, true, by omega, rfl, rfl, by go_num, HFN.out, HTN.out, HY.out, kbelow_dN HB2.out _⟩
         case measure => simp [intOf]; omega
      ·have HTN : Hid (twiceK (fun j => (anth l j).name) (k + 1) = true) := by unfold Hid; rw [twiceK_succ, HT.out]; simp
       go_wp2_with fail
       go_quiet (fail)
       go_wp2_with fail
       go_roundw
       case rel => exact ⟨k + 1, false, true, by omega, rfl, rfl, by go_num, HFN.out, HTN.out, HY.out, kbelow_dN HB2.out _⟩
       case measure => simp [intOf]; omega
    ·have HFN : Hid (farK l (k + 1) = true) := by unfold Hid; rw [farK_succ, HF.out]; rfl
     cases t
     ·by_cases hk0 : k = 0
      ·subst hk0
       have HTN : Hid (twiceK (fun j => (anth l j).name) (0 + 1) = false) := by unfold Hid; rw [twiceK_succ, HT.out]; simp
       go_wp2_with fail
       go_quiet (fail)
       go_wp2_with fail
       go_roundw
       case rel => exact ⟨0 + 1, true, false, by omega, rfl, rfl, by go_num, HFN.out, HTN.out, HY.out, kbelow_dN HB2.out _⟩
       case measure => simp [intOf]; omega
      ·obtain ⟨q, rfl⟩ : ∃ q, k = q + 1 := ⟨k - 1, by omega⟩
       obtain ⟨z0, _⟩ := HO.out _ HB2.out q (by omega)
       rw [show ((q + 1 : Nat) : Int) = (q : Int) + 1 by omega]
       rw [show ((q + 1 : Nat) : Int) = (q : Int) + 1 by omega] at hlt'
       have hsub : (q : Int) + 1 - 1 = (q : Int) := by omega
       have htn : ((q : Int) + 1).toNat = q + 1 := by omega
       have hlq : (q : Int) < (n : Int) := by omega
       have hpB : decide ((0 : Int) < (q : Int) + 1) = true := decide_eq_true (by omega)
       have hp' : (0 : Int) < (q : Int) + 1 := by omega
       cases hle : leS (anth l (q + 1)).name (anth l q).name
       ·have HTN : Hid (twiceK (fun j => (anth l j).name) (q + 1 + 1) = false) := by unfold Hid; rw [twiceK_succ, HT.out]; simp [hle]
        unfold leS at hle
        go_wp2_with fail
        go_quiet (fail)
        go_wp2_with fail
        go_roundw
        case rel => exact ⟨q + 1 + 1, true, false, by omega, rfl, rfl, by go_num, HFN.out, HTN.out, HY.out, kbelow_dN HB2.out _⟩
        case measure => simp [intOf]; omega
       ·have HTN : Hid (twiceK (fun j => (anth l j).name) (q + 1 + 1) = true) := by unfold Hid; rw [twiceK_succ, HT.out]; simp [hle]
        unfold leS at hle
        go_wp2_with fail
        go_quiet (fail)
        go_wp2_with fail
        go_roundw
        case rel => exact ⟨q + 1 + 1, true, true, by omega, rfl, rfl, by go_num, HFN.out, HTN.out, HY.out, kbelow_dN HB2.out _⟩
        case measure => simp [intOf]; omega
     ·have HTN : Hid (twiceK (fun j => (anth l j).name) (k + 1) = true) := by unfold Hid; rw [twiceK_succ, HT.out]; simp
      go_wp2_with fail
      go_quiet (fail)
      go_wp2_with fail
      go_roundw
      case rel => exact ⟨k + 1, true, true, by omega, rfl, rfl, by go_num, HFN.out, HTN.out, HY.out, kbelow_dN HB2.out _⟩
      case measure => simp [intOf]; omega
  ·have hkn : k = n := by omega
   subst hkn
   have HL : Hid (ansB l = true) := all_of (P := anB) (l := l) (fun j hj => HA.out j (by have := HN.out; omega))
   have H1 := farK_all HN.out
   have H2 := twiceK_all (fun j => (anth l j).name) k
   rw [HF.out] at H1
   rw [HT.out] at H2
   have HR : Hid (amsE l = if f = true then 3 else if t = true then 6 else 0) := by
    unfold Hid
    rw [HE.out, HL.out, H1, H2]
    cases amsB l <;> cases upN (fun j => (anth l j).name) k <;> rfl
   clear H1 H2 HE
   cases f
   ·cases t
    ·go_wp2_with fail
     go_ret
     exact ⟨kret_int HR.out.symm, HB.out⟩
    ·go_wp2_with fail
     go_ret
     exact ⟨kret_int HR.out.symm, HB.out⟩
   ·go_wp2_with fail
    go_ret
    exact ⟨kret_int HR.out.symm, HB.out⟩
end Go.Proofs.YtkalfdjmklakdaaGreatDoor
namespace Go.Proofs.YtkalfdjmklakdaaGreatDoor
open Go.RowKit Go.Sort
def tbE (l : List Tb) (j : Nat) : Int := tblE (tnth l j).name (tnth l j).bks
def tbsE (l : List Tb) : Int := if firstE (tbE l) l.length = 0 then (if upN (fun j => (tnth l j).name) l.length = false then 6 else 0) else firstE (tbE l) l.length
set_option maxRecDepth 100000 in
set_option maxHeartbeats 1000000 in
theorem checkTables_any (a : Option Addr) (n cap : Nat) (l : List Tb) (w : World) (hc : CameT w a l) (hn : l.length = n) (hm : n ≤ maxLen) :
 Calls Tryz.prog 226 #[.slice a n cap] w fun e w' => e = .returned (.int .i64 (tbsE l)) ∧ Below w.heap.size w w' := by
 have hm' : n ≤ 9223372036854775807 := by unfold maxLen at hm; omega
 have HM := Lib.hid hm
 have HN := Lib.hid hn
 have HC := Lib.hid hc
 have HE : Hid (tbsE l = if firstE (tbE l) n = 0 then (if upN (fun j => (tnth l j).name) n = false then 6 else 0) else firstE (tbE l) n) := by unfold Hid tbsE; rw [hn]
 clear hm hc hn
 go_enter Tryz.func226, Tryz.ntmps226
 go_wp2_with fail
 go_loopw [8] (fun i wr => ∃ k : Nat, k ≤ n ∧ i = .int .i64 k ∧ firstE (tbE l) k = 0 ∧ Below w.heap.size w wr) (fun i _ => n - (intOf i).toNat)
 case atStart => exact ⟨0, Nat.zero_le _, rfl, rfl, Below.refl _ _⟩
 case round =>
  obtain ⟨k, hk, rfl, hf, hb⟩ := hrel
  have HF := Lib.hid hf
  have HB := Lib.hid hb
  clear hf hb
  by_cases hlt : k < n
  ·have hlt' : (k : Int) < (n : Int) := by omega
   obtain ⟨b, off, rfl, hcell⟩ := HC.out.open HN.out (by omega)
   obtain ⟨ax, cx, x0, x1, hcb, hs, hlb⟩ := hcell wr HB.out k hlt
   have HCB := Lib.hid hcb
   have HLB := Lib.hid hlb
   clear hcell hcb hlb
   have HBJ := Lib.hid (kbelow_box wr (.cells #[.string (tnth l k).name, .slice ax (tnth l k).bks.length cx] 135))
   go_wp2_with fail
   refine (Check_any (tnth l k).name ax _ cx (tnth l k).bks _ (HCB.out.below HBJ.out) rfl HLB.out).mono ?_
   rintro e w1 ⟨rfl, hb1⟩
   have HB1 := Lib.hid (HB.out.trans ((HBJ.out.trans (hb1.mono HBJ.out.size)).mono HB.out.size))
   clear hb1 x0 x1
   by_cases hz : tblE (tnth l k).name (tnth l k).bks = 0
   ·have HF1 : Hid (firstE (tbE l) (k + 1) = 0) := by unfold Hid; rw [firstE_ok HF.out]; exact hz
    rw [hz]
    go_wp2_with fail
    go_roundw
    case rel => exact ⟨k + 1, by omega, by go_num, HF1.out, HB1.out⟩
    case measure => simp [intOf]; omega
   ·have hzB : decide (tblE (tnth l k).name (tnth l k).bks = 0) = false := decide_eq_false hz
    have hzN : (tblE (tnth l k).name (tnth l k).bks != 0) = true := by simpa using hz
    have HR : Hid (tbsE l = tblE (tnth l k).name (tnth l k).bks) := by
     unfold Hid
     have := firstE_err (f := tbE l) hlt HF.out hz
     rw [HE.out, this]
     exact if_neg hz
    generalize tblE (tnth l k).name (tnth l k).bks = z at *
    go_wp2_with fail
    go_ret
    exact ⟨kret_int HR.out.symm, HB1.out⟩
  ·have hkn : k = n := by omega
   subst hkn
   go_wp2_with fail
   refine (riseT_any a k cap l _ (HC.out.below HB.out) HN.out HM.out).mono ?_
   rintro e w1 ⟨rfl, hb1⟩
   have HB1 := Lib.hid (HB.out.trans (hb1.mono HB.out.size))
   clear hb1
   have HR : Hid (tbsE l = if upN (fun j => (tnth l j).name) k = false then 6 else 0) := by unfold Hid; rw [HE.out, if_pos HF.out]
   cases hu : upN (fun j => (tnth l j).name) k
   ·rw [hu] at HR
    go_wp2_with fail
    go_ret
    exact ⟨kret_int HR.out.symm, HB1.out⟩
   ·rw [hu] at HR
    go_wp2_with fail
    go_ret
    exact ⟨kret_int HR.out.symm, HB1.out⟩
structure Kn where
 ins : List Am
 tbs : List Tb
 yrs : List Am
def knE (k : Kn) : Int := if 30 < k.ins.length ∨ 30 < k.tbs.length ∨ 30 < k.yrs.length then 2 else if amsE k.ins = 0 then (if amsE k.yrs = 0 then tbsE k.tbs else amsE k.yrs) else amsE k.ins
def CameK (w : World) (a1 a2 a3 : Option Addr) (k : Kn) : Prop := CameA w a1 k.ins ∧ CameT w a2 k.tbs ∧ CameA w a3 k.yrs ∧ NamesFit k.ins ∧ NamesFit k.yrs ∧ k.ins.length ≤ maxLen ∧ k.tbs.length ≤ maxLen ∧ k.yrs.length ≤ maxLen
theorem CameK.below {w w' : World} {a1 a2 a3 : Option Addr} {k : Kn} (h : CameK w a1 a2 a3 k) (hb : Below w.heap.size w w') : CameK w' a1 a2 a3 k :=
 ⟨h.1.below hb, h.2.1.below hb, h.2.2.1.below hb, h.2.2.2⟩
def KAt (w : World) (b : Nat) (u v z : Value) : Prop := b < w.heap.size ∧ w.cell? ⟨b, 0, none⟩ = some u ∧ w.cell? ⟨b, 1, none⟩ = some v ∧ w.cell? ⟨b, 2, none⟩ = some z
theorem KAt.made (w : World) (u v z : Value) (T : TypeId) : KAt (w.alloc (.cells #[u, v, z] T)) w.heap.size u v z := by
 refine ⟨?_, ?_, ?_, ?_⟩ <;> simp
theorem KAt.below {w w' : World} {b : Nat} {u v z : Value} (h : KAt w b u v z) (hb : Below w.heap.size w w') : KAt w' b u v z :=
 ⟨Nat.lt_of_lt_of_le h.1 hb.size, (hb.cell (p := ⟨b, 0, none⟩) h.1).trans h.2.1, (hb.cell (p := ⟨b, 1, none⟩) h.1).trans h.2.2.1, (hb.cell (p := ⟨b, 2, none⟩) h.1).trans h.2.2.2⟩
set_option maxRecDepth 100000 in
set_option maxHeartbeats 1000000 in
theorem Known_any (a1 a2 a3 : Option Addr) (n1 n2 n3 c1 c2 c3 : Nat) (k : Kn) (w : World) (hc : CameK w a1 a2 a3 k) (h1 : k.ins.length = n1) (h2 : k.tbs.length = n2) (h3 : k.yrs.length = n3) :
 Calls Tryz.prog 187 #[.agg #[.slice a1 n1 c1, .slice a2 n2 c2, .slice a3 n3 c3]] w fun e w' => e = .returned (.int .i64 (knE k)) ∧ Below w.heap.size w w' := by
 have hm1 : n1 ≤ 9223372036854775807 := by have := hc.2.2.2.2.2.1; unfold maxLen at this; omega
 have hm2 : n2 ≤ 9223372036854775807 := by have := hc.2.2.2.2.2.2.1; unfold maxLen at this; omega
 have hm3 : n3 ≤ 9223372036854775807 := by have := hc.2.2.2.2.2.2.2; unfold maxLen at this; omega
 have HC := Lib.hid hc
 have H1 := Lib.hid h1
 have H2 := Lib.hid h2
 have H3 := Lib.hid h3
 have HE : Hid (knE k = if 30 < n1 ∨ 30 < n2 ∨ 30 < n3 then 2 else if amsE k.ins = 0 then (if amsE k.yrs = 0 then tbsE k.tbs else amsE k.yrs) else amsE k.ins) := by unfold Hid knE; rw [h1, h2, h3]
 clear hc h1 h2 h3
 have HB0 := Lib.hid (kbelow_box w (.cells #[.slice a1 n1 c1, .slice a2 n2 c2, .slice a3 n3 c3] 124))
 have HK0 := Lib.hid (KAt.made w (.slice a1 n1 c1) (.slice a2 n2 c2) (.slice a3 n3 c3) 124)
 by_cases q1 : n1 < n2
 ·have q1' : (n1 : Int) < (n2 : Int) := by omega
  by_cases q2 : n2 < n3
  ·have q2' : (n2 : Int) < (n3 : Int) := by omega
   by_cases g : 30 < n3
   ·have HR : Hid (knE k = 2) := by unfold Hid; rw [HE.out, if_pos (by omega)]
    have q3 : (30 : Int) < (n3 : Int) := by omega
    go_enter Tryz.func187, Tryz.ntmps187
    go_wp2_with fail
    go_ret
    exact ⟨kret_int HR.out.symm, HB0.out⟩
   ·have HEN : Hid (knE k = if amsE k.ins = 0 then (if amsE k.yrs = 0 then tbsE k.tbs else amsE k.yrs) else amsE k.ins) := by unfold Hid; rw [HE.out, if_neg (by omega)]
    have q3 : ¬ (30 : Int) < (n3 : Int) := by omega
    have q3B : decide ((30 : Int) < (n3 : Int)) = false := decide_eq_false q3
    go_enter Tryz.func187, Tryz.ntmps187
    go_wp2_with fail
    refine (checkAmounts_any a1 n1 c1 k.ins _ (HC.out.1.below HB0.out) H1.out (by have := HC.out.2.2.2.2.2.1; have := H1.out; omega)).mono ?_
    rintro e w1 ⟨rfl, hb1⟩
    have HB1 := Lib.hid (HB0.out.trans (hb1.mono HB0.out.size))
    have HX1 := Lib.hid (KAt.below HK0.out hb1)
    clear hb1
    obtain ⟨_, x0, x1, x2⟩ := HX1.out
    by_cases z1 : amsE k.ins = 0
    ·rw [if_pos z1] at HEN
     rw [z1]
     go_wp2_with fail
     refine (checkAmounts_any a3 n3 c3 k.yrs _ (HC.out.2.2.1.below HB1.out) H3.out (by have := HC.out.2.2.2.2.2.2.2; have := H3.out; omega)).mono ?_
     rintro e w2 ⟨rfl, hb2⟩
     have HB2 := Lib.hid (HB1.out.trans (hb2.mono HB1.out.size))
     have HX2 := Lib.hid (KAt.below HX1.out hb2)
     clear hb2 x0 x1 x2
     obtain ⟨_, x0, x1, x2⟩ := HX2.out
     by_cases z2 : amsE k.yrs = 0
     ·rw [if_pos z2] at HEN
      rw [z2]
      go_wp2_with fail
      refine (checkTables_any a2 n2 c2 k.tbs _ (HC.out.2.1.below HB2.out) H2.out (by have := HC.out.2.2.2.2.2.2.1; have := H2.out; omega)).mono ?_
      rintro e w3 ⟨rfl, hb3⟩
      have HB3 := Lib.hid (HB2.out.trans (hb3.mono HB2.out.size))
      clear hb3 x0 x1 x2
      go_wp2_with fail
      go_ret
      exact ⟨kret_int HEN.out.symm, HB3.out⟩
     ·rw [if_neg z2] at HEN
      have z2B : decide (amsE k.yrs = 0) = false := decide_eq_false z2
      have z2N : (amsE k.yrs != 0) = true := by simpa using z2
      generalize amsE k.yrs = z at *
      go_wp2_with fail
      go_ret
      exact ⟨kret_int HEN.out.symm, HB2.out⟩
    ·rw [if_neg z1] at HEN
     have z1B : decide (amsE k.ins = 0) = false := decide_eq_false z1
     have z1N : (amsE k.ins != 0) = true := by simpa using z1
     generalize amsE k.ins = z at *
     go_wp2_with fail
     go_ret
     exact ⟨kret_int HEN.out.symm, HB1.out⟩
  ·have q2' : ¬ (n2 : Int) < (n3 : Int) := by omega
   by_cases g : 30 < n2
   ·have HR : Hid (knE k = 2) := by unfold Hid; rw [HE.out, if_pos (by omega)]
    have q3 : (30 : Int) < (n2 : Int) := by omega
    go_enter Tryz.func187, Tryz.ntmps187
    go_wp2_with fail
    go_ret
    exact ⟨kret_int HR.out.symm, HB0.out⟩
   ·have HEN : Hid (knE k = if amsE k.ins = 0 then (if amsE k.yrs = 0 then tbsE k.tbs else amsE k.yrs) else amsE k.ins) := by unfold Hid; rw [HE.out, if_neg (by omega)]
    have q3 : ¬ (30 : Int) < (n2 : Int) := by omega
    have q3B : decide ((30 : Int) < (n2 : Int)) = false := decide_eq_false q3
    go_enter Tryz.func187, Tryz.ntmps187
    go_wp2_with fail
    refine (checkAmounts_any a1 n1 c1 k.ins _ (HC.out.1.below HB0.out) H1.out (by have := HC.out.2.2.2.2.2.1; have := H1.out; omega)).mono ?_
    rintro e w1 ⟨rfl, hb1⟩
    have HB1 := Lib.hid (HB0.out.trans (hb1.mono HB0.out.size))
    have HX1 := Lib.hid (KAt.below HK0.out hb1)
    clear hb1
    obtain ⟨_, x0, x1, x2⟩ := HX1.out
    by_cases z1 : amsE k.ins = 0
    ·rw [if_pos z1] at HEN
     rw [z1]
     go_wp2_with fail
     refine (checkAmounts_any a3 n3 c3 k.yrs _ (HC.out.2.2.1.below HB1.out) H3.out (by have := HC.out.2.2.2.2.2.2.2; have := H3.out; omega)).mono ?_
     rintro e w2 ⟨rfl, hb2⟩
     have HB2 := Lib.hid (HB1.out.trans (hb2.mono HB1.out.size))
     have HX2 := Lib.hid (KAt.below HX1.out hb2)
     clear hb2 x0 x1 x2
     obtain ⟨_, x0, x1, x2⟩ := HX2.out
     by_cases z2 : amsE k.yrs = 0
     ·rw [if_pos z2] at HEN
      rw [z2]
      go_wp2_with fail
      refine (checkTables_any a2 n2 c2 k.tbs _ (HC.out.2.1.below HB2.out) H2.out (by have := HC.out.2.2.2.2.2.2.1; have := H2.out; omega)).mono ?_
      rintro e w3 ⟨rfl, hb3⟩
      have HB3 := Lib.hid (HB2.out.trans (hb3.mono HB2.out.size))
      clear hb3 x0 x1 x2
      go_wp2_with fail
      go_ret
      exact ⟨kret_int HEN.out.symm, HB3.out⟩
     ·rw [if_neg z2] at HEN
      have z2B : decide (amsE k.yrs = 0) = false := decide_eq_false z2
      have z2N : (amsE k.yrs != 0) = true := by simpa using z2
      generalize amsE k.yrs = z at *
      go_wp2_with fail
      go_ret
      exact ⟨kret_int HEN.out.symm, HB2.out⟩
    ·rw [if_neg z1] at HEN
     have z1B : decide (amsE k.ins = 0) = false := decide_eq_false z1
     have z1N : (amsE k.ins != 0) = true := by simpa using z1
     generalize amsE k.ins = z at *
     go_wp2_with fail
     go_ret
     exact ⟨kret_int HEN.out.symm, HB1.out⟩
 ·have q1' : ¬ (n1 : Int) < (n2 : Int) := by omega
  by_cases q2 : n1 < n3
  ·have q2' : (n1 : Int) < (n3 : Int) := by omega
   by_cases g : 30 < n3
   ·have HR : Hid (knE k = 2) := by unfold Hid; rw [HE.out, if_pos (by omega)]
    have q3 : (30 : Int) < (n3 : Int) := by omega
    go_enter Tryz.func187, Tryz.ntmps187
    go_wp2_with fail
    go_ret
    exact ⟨kret_int HR.out.symm, HB0.out⟩
   ·have HEN : Hid (knE k = if amsE k.ins = 0 then (if amsE k.yrs = 0 then tbsE k.tbs else amsE k.yrs) else amsE k.ins) := by unfold Hid; rw [HE.out, if_neg (by omega)]
    have q3 : ¬ (30 : Int) < (n3 : Int) := by omega
    have q3B : decide ((30 : Int) < (n3 : Int)) = false := decide_eq_false q3
    go_enter Tryz.func187, Tryz.ntmps187
    go_wp2_with fail
    refine (checkAmounts_any a1 n1 c1 k.ins _ (HC.out.1.below HB0.out) H1.out (by have := HC.out.2.2.2.2.2.1; have := H1.out; omega)).mono ?_
    rintro e w1 ⟨rfl, hb1⟩
    have HB1 := Lib.hid (HB0.out.trans (hb1.mono HB0.out.size))
    have HX1 := Lib.hid (KAt.below HK0.out hb1)
    clear hb1
    obtain ⟨_, x0, x1, x2⟩ := HX1.out
    by_cases z1 : amsE k.ins = 0
    ·rw [if_pos z1] at HEN
     rw [z1]
     go_wp2_with fail
     refine (checkAmounts_any a3 n3 c3 k.yrs _ (HC.out.2.2.1.below HB1.out) H3.out (by have := HC.out.2.2.2.2.2.2.2; have := H3.out; omega)).mono ?_
     rintro e w2 ⟨rfl, hb2⟩
     have HB2 := Lib.hid (HB1.out.trans (hb2.mono HB1.out.size))
     have HX2 := Lib.hid (KAt.below HX1.out hb2)
     clear hb2 x0 x1 x2
     obtain ⟨_, x0, x1, x2⟩ := HX2.out
     by_cases z2 : amsE k.yrs = 0
     ·rw [if_pos z2] at HEN
      rw [z2]
      go_wp2_with fail
      refine (checkTables_any a2 n2 c2 k.tbs _ (HC.out.2.1.below HB2.out) H2.out (by have := HC.out.2.2.2.2.2.2.1; have := H2.out; omega)).mono ?_
      rintro e w3 ⟨rfl, hb3⟩
      have HB3 := Lib.hid (HB2.out.trans (hb3.mono HB2.out.size))
      clear hb3 x0 x1 x2
      go_wp2_with fail
      go_ret
      exact ⟨kret_int HEN.out.symm, HB3.out⟩
     ·rw [if_neg z2] at HEN
      have z2B : decide (amsE k.yrs = 0) = false := decide_eq_false z2
      have z2N : (amsE k.yrs != 0) = true := by simpa using z2
      generalize amsE k.yrs = z at *
      go_wp2_with fail
      go_ret
      exact ⟨kret_int HEN.out.symm, HB2.out⟩
    ·rw [if_neg z1] at HEN
     have z1B : decide (amsE k.ins = 0) = false := decide_eq_false z1
     have z1N : (amsE k.ins != 0) = true := by simpa using z1
     generalize amsE k.ins = z at *
     go_wp2_with fail
     go_ret
     exact ⟨kret_int HEN.out.symm, HB1.out⟩
  ·have q2' : ¬ (n1 : Int) < (n3 : Int) := by omega
   by_cases g : 30 < n1
   ·have HR : Hid (knE k = 2) := by unfold Hid; rw [HE.out, if_pos (by omega)]
    have q3 : (30 : Int) < (n1 : Int) := by omega
    go_enter Tryz.func187, Tryz.ntmps187
    go_wp2_with fail
    go_ret
    exact ⟨kret_int HR.out.symm, HB0.out⟩
   ·have HEN : Hid (knE k = if amsE k.ins = 0 then (if amsE k.yrs = 0 then tbsE k.tbs else amsE k.yrs) else amsE k.ins) := by unfold Hid; rw [HE.out, if_neg (by omega)]
    have q3 : ¬ (30 : Int) < (n1 : Int) := by omega
    have q3B : decide ((30 : Int) < (n1 : Int)) = false := decide_eq_false q3
    go_enter Tryz.func187, Tryz.ntmps187
    go_wp2_with fail
    refine (checkAmounts_any a1 n1 c1 k.ins _ (HC.out.1.below HB0.out) H1.out (by have := HC.out.2.2.2.2.2.1; have := H1.out; omega)).mono ?_
    rintro e w1 ⟨rfl, hb1⟩
    have HB1 := Lib.hid (HB0.out.trans (hb1.mono HB0.out.size))
    have HX1 := Lib.hid (KAt.below HK0.out hb1)
    clear hb1
    obtain ⟨_, x0, x1, x2⟩ := HX1.out
    by_cases z1 : amsE k.ins = 0
    ·rw [if_pos z1] at HEN
     rw [z1]
     go_wp2_with fail
     refine (checkAmounts_any a3 n3 c3 k.yrs _ (HC.out.2.2.1.below HB1.out) H3.out (by have := HC.out.2.2.2.2.2.2.2; have := H3.out; omega)).mono ?_
     rintro e w2 ⟨rfl, hb2⟩
     have HB2 := Lib.hid (HB1.out.trans (hb2.mono HB1.out.size))
     have HX2 := Lib.hid (KAt.below HX1.out hb2)
     clear hb2 x0 x1 x2
     obtain ⟨_, x0, x1, x2⟩ := HX2.out
     by_cases z2 : amsE k.yrs = 0
     ·rw [if_pos z2] at HEN
      rw [z2]
      go_wp2_with fail
      refine (checkTables_any a2 n2 c2 k.tbs _ (HC.out.2.1.below HB2.out) H2.out (by have := HC.out.2.2.2.2.2.2.1; have := H2.out; omega)).mono ?_
      rintro e w3 ⟨rfl, hb3⟩
      have HB3 := Lib.hid (HB2.out.trans (hb3.mono HB2.out.size))
      clear hb3 x0 x1 x2
      go_wp2_with fail
      go_ret
      exact ⟨kret_int HEN.out.symm, HB3.out⟩
     ·rw [if_neg z2] at HEN
      have z2B : decide (amsE k.yrs = 0) = false := decide_eq_false z2
      have z2N : (amsE k.yrs != 0) = true := by simpa using z2
      generalize amsE k.yrs = z at *
      go_wp2_with fail
      go_ret
      exact ⟨kret_int HEN.out.symm, HB2.out⟩
    ·rw [if_neg z1] at HEN
     have z1B : decide (amsE k.ins = 0) = false := decide_eq_false z1
     have z1N : (amsE k.ins != 0) = true := by simpa using z1
     generalize amsE k.ins = z at *
     go_wp2_with fail
     go_ret
     exact ⟨kret_int HEN.out.symm, HB1.out⟩
end Go.Proofs.YtkalfdjmklakdaaGreatDoor
namespace Go.Proofs.YtkalfdjmklakdaaGreatDoor
open Go.RowKit Go.Sort
theorem tblE_bd' (s : ByteArray) (l : List Bk) : 0 ≤ tblE s l ∧ tblE s l ≤ 6 := by have := tblE_bd s l; omega
theorem tbsE_err {l : List Tb} {n k : Nat} (hn : l.length = n) (hk : k < n) (h0 : firstE (tbE l) k = 0) (he : tbE l k ≠ 0) : tbsE l = tbE l k := by
 have h := firstE_err hk h0 he
 unfold tbsE
 rw [hn, h]
 exact if_neg he
set_option maxRecDepth 100000 in
set_option maxHeartbeats 4000000 in
theorem known_ref (a1 a2 a3 : Option Addr) (n1 n2 n3 c1 c2 c3 : Nat) (k : Kn) (w : World) (hc : CameK w a1 a2 a3 k) (h1 : k.ins.length = n1) (h2 : k.tbs.length = n2) (h3 : k.yrs.length = n3) :
 Calls Tryz.prog 155 #[.agg #[.slice a1 n1 c1, .slice a2 n2 c2, .slice a3 n3 c3]] w fun e w' => e = .returned (.int .i64 (knE k)) ∧ Below w.heap.size w w' := by
 have hm1 : n1 ≤ 9223372036854775807 := by have := hc.2.2.2.2.2.1; unfold maxLen at this; omega
 have hm2 : n2 ≤ 9223372036854775807 := by have := hc.2.2.2.2.2.2.1; unfold maxLen at this; omega
 have hm3 : n3 ≤ 9223372036854775807 := by have := hc.2.2.2.2.2.2.2; unfold maxLen at this; omega
 have HC := Lib.hid hc
 have H1 := Lib.hid h1
 have H2 := Lib.hid h2
 have H3 := Lib.hid h3
 have HE : Hid (knE k = if 30 < n1 ∨ 30 < n2 ∨ 30 < n3 then 2 else if amsE k.ins = 0 then (if amsE k.yrs = 0 then tbsE k.tbs else amsE k.yrs) else amsE k.ins) := by unfold Hid knE; rw [h1, h2, h3]
 clear hc h1 h2 h3
 have HB0 := Lib.hid (kbelow_box w (.cells #[.slice a1 n1 c1, .slice a2 n2 c2, .slice a3 n3 c3] 124))
 have HK0 := Lib.hid (KAt.made w (.slice a1 n1 c1) (.slice a2 n2 c2) (.slice a3 n3 c3) 124)
 by_cases g1 : 30 < n1
 ·have g1' : (30 : Int) < (n1 : Int) := by omega
  have HR : Hid (knE k = 2) := by unfold Hid; rw [HE.out, if_pos (.inl g1)]
  go_enter Tryz.func155, Tryz.ntmps155
  go_wp2_with fail
  go_ret
  exact ⟨kret_int HR.out.symm, HB0.out⟩
 ·have g1' : decide ((30 : Int) < (n1 : Int)) = false := decide_eq_false (by omega)
  by_cases g2 : 30 < n2
  ·have g2' : (30 : Int) < (n2 : Int) := by omega
   have HR : Hid (knE k = 2) := by unfold Hid; rw [HE.out, if_pos (.inr (.inl g2))]
   go_enter Tryz.func155, Tryz.ntmps155
   go_wp2_with fail
   go_ret
   exact ⟨kret_int HR.out.symm, HB0.out⟩
  ·have g2' : decide ((30 : Int) < (n2 : Int)) = false := decide_eq_false (by omega)
   by_cases g3 : 30 < n3
   ·have g3' : (30 : Int) < (n3 : Int) := by omega
    have HR : Hid (knE k = 2) := by unfold Hid; rw [HE.out, if_pos (.inr (.inr g3))]
    go_enter Tryz.func155, Tryz.ntmps155
    go_wp2_with fail
    go_ret
    exact ⟨kret_int HR.out.symm, HB0.out⟩
   ·have g3' : decide ((30 : Int) < (n3 : Int)) = false := decide_eq_false (by omega)
    have HEN : Hid (knE k = if amsE k.ins = 0 then (if amsE k.yrs = 0 then tbsE k.tbs else amsE k.yrs) else amsE k.ins) := by unfold Hid; rw [HE.out, if_neg (by omega)]
    go_enter Tryz.func155, Tryz.ntmps155
    go_wp2_with fail
    refine (checkAmounts_ref a1 n1 c1 k.ins _ (HC.out.1.below HB0.out) HC.out.2.2.2.1 H1.out (by have := HC.out.2.2.2.2.2.1; have := H1.out; omega)).mono ?_
    rintro e w1 ⟨rfl, hb1⟩
    have HB1 := Lib.hid (HB0.out.trans (hb1.mono HB0.out.size))
    have HX1 := Lib.hid (KAt.below HK0.out hb1)
    clear hb1
    obtain ⟨_, x0, x1, x2⟩ := HX1.out
    have hb1 := amsE_bd k.ins
    have hb3 := amsE_bd k.yrs
    by_cases z1 : amsE k.ins = 0
    ·rw [if_pos z1] at HEN
     rw [z1]
     clear hb1
     go_wp2_with fail
     refine (checkAmounts_ref a3 n3 c3 k.yrs _ (HC.out.2.2.1.below HB1.out) HC.out.2.2.2.2.1 H3.out (by have := HC.out.2.2.2.2.2.2.2; have := H3.out; omega)).mono ?_
     rintro e w2 ⟨rfl, hb2⟩
     have HB2 := Lib.hid (HB1.out.trans (hb2.mono HB1.out.size))
     have HX2 := Lib.hid (KAt.below HX1.out hb2)
     clear hb2 x0 x1 x2
     obtain ⟨_, x0, x1, x2⟩ := HX2.out
     have HZ : Hid (amsE k.yrs ≠ 0 → knE k = amsE k.yrs) := fun h => by rw [HEN.out]; exact if_neg h
     have HZE : Hid (amsE k.yrs = 0 → knE k = tbsE k.tbs) := fun h => by rw [HEN.out]; exact if_pos h
     clear HEN
     generalize amsE k.yrs = z at *
     go_wp2_with fail
     go_loopw [3, 4] (fun ev i wr => ∃ (j : Nat) (x : Int), j ≤ n2 ∧ i = .int .i64 j ∧ ev = .int .i64 x ∧ 0 ≤ x ∧ x ≤ 6 ∧ (x = 0 → firstE (tbE k.tbs) j = 0 ∧ z = 0) ∧ (x ≠ 0 → knE k = x) ∧ Below w2.heap.size w2 wr) (fun _ i _ => n2 - (intOf i).toNat)
     case atStart => exact ⟨0, z, Nat.zero_le _, rfl, rfl, by omega, by omega, fun h => ⟨rfl, h⟩, HZ.out, Below.refl _ _⟩
     case round =>
      obtain ⟨j, x, hj, rfl, rfl, hx0, hx6, hfx, hkx, hbr⟩ := hrel
      have HFX := Lib.hid hfx
      have HKX := Lib.hid hkx
      have HBR := Lib.hid hbr
      have HX3 := Lib.hid (KAt.below HX2.out hbr)
      have HBW := Lib.hid (HB2.out.trans (hbr.mono HB2.out.size))
      clear hfx hkx hbr x0 x1 x2
      obtain ⟨_, x0, x1, x2⟩ := HX3.out
      by_cases hlt : j < n2
      ·have hlt' : (j : Int) < (n2 : Int) := by omega
       by_cases hx : x = 0
       ·have HF0 := Lib.hid (HFX.out hx)
        clear HFX HKX
        subst hx
        obtain ⟨b, off, rfl, hcell⟩ := HC.out.2.1.open H2.out (by omega)
        obtain ⟨ax, cx, y0, y1, hcb, hs, hlb⟩ := hcell wr HBW.out j hlt
        have HCB := Lib.hid hcb
        have HLB := Lib.hid hlb
        clear hcell hcb hlb
        go_wp2_with fail
        refine (check_ref (tnth k.tbs j).name ax _ cx (tnth k.tbs j).bks _ (by unfold maxLen at hs; omega) HCB.out rfl HLB.out).mono ?_
        rintro e w3 ⟨rfl, hb3⟩
        have HB3 := Lib.hid (HBR.out.trans (hb3.mono HBR.out.size))
        have hbd := tblE_bd' (tnth k.tbs j).name (tnth k.tbs j).bks
        clear hb3 x0 x1 x2 y0 y1
        have HF1 : Hid (tblE (tnth k.tbs j).name (tnth k.tbs j).bks = 0 → firstE (tbE k.tbs) (j + 1) = 0 ∧ z = 0) := fun h => ⟨by rw [firstE_ok HF0.out.1]; exact h, HF0.out.2⟩
        have HF2 : Hid (tblE (tnth k.tbs j).name (tnth k.tbs j).bks ≠ 0 → knE k = tblE (tnth k.tbs j).name (tnth k.tbs j).bks) := fun h => by
         rw [HZE.out HF0.out.2]
         exact tbsE_err H2.out hlt HF0.out.1 h
        generalize tblE (tnth k.tbs j).name (tnth k.tbs j).bks = y at *
        go_wp2_with fail
        go_roundw
        case rel => exact ⟨j + 1, y, by omega, by go_num, rfl, by omega, by omega, HF1.out, HF2.out, HB3.out⟩
        case measure => simp [intOf]; omega
       ·have hxB : decide (x = 0) = false := decide_eq_false hx
        have hxE : (x == 0) = false := by simpa using hx
        have HR := Lib.hid (HKX.out hx)
        clear HFX HKX
        go_wp2_with fail
        go_loopw [3, 5] (fun ev i wq => ev = .int .i64 x ∧ i = .int .i64 1 ∧ Below wr.heap.size wr wq) (fun _ _ _ => 0)
        case atStart => exact ⟨rfl, rfl, Below.refl _ _⟩
        case round =>
         obtain ⟨rfl, rfl, hbq⟩ := hrel
         have HBQ := Lib.hid (HBW.out.trans (hbq.mono HBW.out.size))
         have HX4 := Lib.hid (KAt.below HX3.out hbq)
         clear hbq x0 x1 x2
         obtain ⟨_, x0, x1, x2⟩ := HX4.out
         by_cases h1 : (1 : Int) < (n2 : Int)
         ·go_wp2_with fail
          go_ret
          exact ⟨kret_int HR.out.symm, HBQ.out⟩
         ·have h1B : decide ((1 : Int) < (n2 : Int)) = false := decide_eq_false h1
          go_wp2_with fail
          go_ret
          exact ⟨kret_int HR.out.symm, HBQ.out⟩
      ·have hlB : decide ((j : Int) < (n2 : Int)) = false := decide_eq_false (by omega)
       have hjn : j = n2 := by omega
       subst hjn
       have HT : Hid (x = 0 → knE k = if upN (fun j => (tnth k.tbs j).name) j = false then 6 else 0) := fun h => by
        rw [HZE.out (HFX.out h).2]
        unfold tbsE
        rw [H2.out]
        exact if_pos (HFX.out h).1
       clear HFX
       go_wp2_with fail
       go_loopw [3, 5] (fun ev i wq => ∃ (r : Nat) (y : Int), (r + 1 ≤ j ∨ r = 0) ∧ i = .int .i64 ((r : Int) + 1) ∧ ev = .int .i64 y ∧ 0 ≤ y ∧ y ≤ 6 ∧ (y = 0 → x = 0 ∧ ∀ i, i < r → leS (tnth k.tbs (i + 1)).name (tnth k.tbs i).name = false) ∧ (y ≠ 0 → knE k = y) ∧ Below wr.heap.size wr wq) (fun _ i _ => j - (intOf i).toNat)
       case atStart => exact ⟨0, x, .inr rfl, rfl, rfl, by omega, by omega, fun h => ⟨h, fun i hi => by omega⟩, HKX.out, Below.refl _ _⟩
       case round =>
        obtain ⟨r, y, hrk, rfl, rfl, hy0, hy6, hall, hky, hbq⟩ := hrel
        have HA := Lib.hid hall
        have HKY := Lib.hid hky
        have HBQ := Lib.hid hbq
        have HBV := Lib.hid (HBW.out.trans (hbq.mono HBW.out.size))
        have HX4 := Lib.hid (KAt.below HX3.out hbq)
        clear hall hky hbq x0 x1 x2
        obtain ⟨_, x0, x1, x2⟩ := HX4.out
        by_cases hlt : r + 1 < j
        ·have hlt' : (r : Int) + 1 < (j : Int) := by omega
         by_cases hy : y = 0
         ·have HA0 := Lib.hid (HA.out hy)
          clear HA HKY
          subst hy
          have hlt0 : (r : Int) < (j : Int) := by omega
          obtain ⟨b, off, rfl, hcell⟩ := HC.out.2.1.open H2.out (by omega)
          obtain ⟨ax, cx, p0, p1, _⟩ := hcell _ HBV.out r (by omega)
          obtain ⟨ay, cy, q0, q1, _⟩ := hcell _ HBV.out (r + 1) (by omega)
          clear hcell
          have htn : ((r : Int) + 1).toNat = r + 1 := by omega
          have hsub : (r : Int) + 1 - 1 = (r : Int) := by omega
          cases hle : leS (tnth k.tbs (r + 1)).name (tnth k.tbs r).name
          ·have HA1 : Hid (∀ i, i < r + 1 → leS (tnth k.tbs (i + 1)).name (tnth k.tbs i).name = false) := fun i hi => by
            by_cases e : i = r
            ·subst e; exact hle
            ·exact HA0.out.2 i (by omega)
           have HX0 := Lib.hid HA0.out.1
           unfold leS at hle
           go_wp2_with fail
           go_quiet (fail)
           go_wp2_with fail
           go_roundw
           case rel => exact ⟨r + 1, 0, .inl (by omega), by go_num, rfl, by omega, by omega, fun _ => ⟨HX0.out, HA1.out⟩, fun h => absurd rfl h, kbelow_dN HBQ.out _⟩
           case measure => simp [intOf]; omega
          ·have HR : Hid (knE k = 6) := by
            unfold Hid
            rw [HT.out HA0.out.1, if_pos (upN_not (f := fun j => (tnth k.tbs j).name) hlt hle)]
           unfold leS at hle
           go_wp2_with fail
           go_quiet (fail)
           go_wp2_with fail
           go_roundw
           case rel => exact ⟨r + 1, 6, .inl (by omega), by go_num, rfl, by omega, by omega, fun h => by omega, fun _ => HR.out, kbelow_dN HBQ.out _⟩
           case measure => simp [intOf]; omega
         ·have hyB : decide (y = 0) = false := decide_eq_false hy
          have hyE : (y == 0) = false := by simpa using hy
          have HR := Lib.hid (HKY.out hy)
          go_wp2_with fail
          go_ret
          exact ⟨kret_int HR.out.symm, HBV.out⟩
        ·have hlB2 : decide ((r : Int) + 1 < (j : Int)) = false := decide_eq_false (by omega)
         have HR : Hid (knE k = y) := by
          unfold Hid
          by_cases hy : y = 0
          ·rw [HT.out (HA.out hy).1, upN_iff.2 (fun i hi => (HA.out hy).2 i (by omega))]
           simp [hy]
          ·exact HKY.out hy
         clear HA HKY
         go_wp2_with fail
         go_ret
         exact ⟨kret_int HR.out.symm, HBV.out⟩
    ·rw [if_neg z1] at HEN
     have z1B : decide (amsE k.ins = 0) = false := decide_eq_false z1
     have z1N : (amsE k.ins == 0) = false := by simpa using z1
     have HZ : Hid (amsE k.ins ≠ 0 → knE k = amsE k.ins) := fun _ => HEN.out
     have HZE : Hid (amsE k.ins = 0 → knE k = tbsE k.tbs) := fun h => absurd h z1
     clear HEN hb3
     generalize amsE k.ins = z at *
     have HB2 := HB1
     have HX2 := HX1
     generalize w1 = w2 at *
     go_wp2_with fail
     go_loopw [3, 4] (fun ev i wr => ∃ (j : Nat) (x : Int), j ≤ n2 ∧ i = .int .i64 j ∧ ev = .int .i64 x ∧ 0 ≤ x ∧ x ≤ 6 ∧ (x = 0 → firstE (tbE k.tbs) j = 0 ∧ z = 0) ∧ (x ≠ 0 → knE k = x) ∧ Below w2.heap.size w2 wr) (fun _ i _ => n2 - (intOf i).toNat)
     case atStart => exact ⟨0, z, Nat.zero_le _, rfl, rfl, by omega, by omega, fun h => ⟨rfl, h⟩, HZ.out, Below.refl _ _⟩
     case round =>
      obtain ⟨j, x, hj, rfl, rfl, hx0, hx6, hfx, hkx, hbr⟩ := hrel
      have HFX := Lib.hid hfx
      have HKX := Lib.hid hkx
      have HBR := Lib.hid hbr
      have HX3 := Lib.hid (KAt.below HX2.out hbr)
      have HBW := Lib.hid (HB2.out.trans (hbr.mono HB2.out.size))
      clear hfx hkx hbr x0 x1 x2
      obtain ⟨_, x0, x1, x2⟩ := HX3.out
      by_cases hlt : j < n2
      ·have hlt' : (j : Int) < (n2 : Int) := by omega
       by_cases hx : x = 0
       ·have HF0 := Lib.hid (HFX.out hx)
        clear HFX HKX
        subst hx
        obtain ⟨b, off, rfl, hcell⟩ := HC.out.2.1.open H2.out (by omega)
        obtain ⟨ax, cx, y0, y1, hcb, hs, hlb⟩ := hcell wr HBW.out j hlt
        have HCB := Lib.hid hcb
        have HLB := Lib.hid hlb
        clear hcell hcb hlb
        go_wp2_with fail
        refine (check_ref (tnth k.tbs j).name ax _ cx (tnth k.tbs j).bks _ (by unfold maxLen at hs; omega) HCB.out rfl HLB.out).mono ?_
        rintro e w3 ⟨rfl, hb3⟩
        have HB3 := Lib.hid (HBR.out.trans (hb3.mono HBR.out.size))
        have hbd := tblE_bd' (tnth k.tbs j).name (tnth k.tbs j).bks
        clear hb3 x0 x1 x2 y0 y1
        have HF1 : Hid (tblE (tnth k.tbs j).name (tnth k.tbs j).bks = 0 → firstE (tbE k.tbs) (j + 1) = 0 ∧ z = 0) := fun h => ⟨by rw [firstE_ok HF0.out.1]; exact h, HF0.out.2⟩
        have HF2 : Hid (tblE (tnth k.tbs j).name (tnth k.tbs j).bks ≠ 0 → knE k = tblE (tnth k.tbs j).name (tnth k.tbs j).bks) := fun h => by
         rw [HZE.out HF0.out.2]
         exact tbsE_err H2.out hlt HF0.out.1 h
        generalize tblE (tnth k.tbs j).name (tnth k.tbs j).bks = y at *
        go_wp2_with fail
        go_roundw
        case rel => exact ⟨j + 1, y, by omega, by go_num, rfl, by omega, by omega, HF1.out, HF2.out, HB3.out⟩
        case measure => simp [intOf]; omega
       ·have hxB : decide (x = 0) = false := decide_eq_false hx
        have hxE : (x == 0) = false := by simpa using hx
        have HR := Lib.hid (HKX.out hx)
        clear HFX HKX
        go_wp2_with fail
        go_loopw [3, 5] (fun ev i wq => ev = .int .i64 x ∧ i = .int .i64 1 ∧ Below wr.heap.size wr wq) (fun _ _ _ => 0)
        case atStart => exact ⟨rfl, rfl, Below.refl _ _⟩
        case round =>
         obtain ⟨rfl, rfl, hbq⟩ := hrel
         have HBQ := Lib.hid (HBW.out.trans (hbq.mono HBW.out.size))
         have HX4 := Lib.hid (KAt.below HX3.out hbq)
         clear hbq x0 x1 x2
         obtain ⟨_, x0, x1, x2⟩ := HX4.out
         by_cases h1 : (1 : Int) < (n2 : Int)
         ·go_wp2_with fail
          go_ret
          exact ⟨kret_int HR.out.symm, HBQ.out⟩
         ·have h1B : decide ((1 : Int) < (n2 : Int)) = false := decide_eq_false h1
          go_wp2_with fail
          go_ret
          exact ⟨kret_int HR.out.symm, HBQ.out⟩
      ·have hlB : decide ((j : Int) < (n2 : Int)) = false := decide_eq_false (by omega)
       have hjn : j = n2 := by omega
       subst hjn
       have HT : Hid (x = 0 → knE k = if upN (fun j => (tnth k.tbs j).name) j = false then 6 else 0) := fun h => by
        rw [HZE.out (HFX.out h).2]
        unfold tbsE
        rw [H2.out]
        exact if_pos (HFX.out h).1
       clear HFX
       go_wp2_with fail
       go_loopw [3, 5] (fun ev i wq => ∃ (r : Nat) (y : Int), (r + 1 ≤ j ∨ r = 0) ∧ i = .int .i64 ((r : Int) + 1) ∧ ev = .int .i64 y ∧ 0 ≤ y ∧ y ≤ 6 ∧ (y = 0 → x = 0 ∧ ∀ i, i < r → leS (tnth k.tbs (i + 1)).name (tnth k.tbs i).name = false) ∧ (y ≠ 0 → knE k = y) ∧ Below wr.heap.size wr wq) (fun _ i _ => j - (intOf i).toNat)
       case atStart => exact ⟨0, x, .inr rfl, rfl, rfl, by omega, by omega, fun h => ⟨h, fun i hi => by omega⟩, HKX.out, Below.refl _ _⟩
       case round =>
        obtain ⟨r, y, hrk, rfl, rfl, hy0, hy6, hall, hky, hbq⟩ := hrel
        have HA := Lib.hid hall
        have HKY := Lib.hid hky
        have HBQ := Lib.hid hbq
        have HBV := Lib.hid (HBW.out.trans (hbq.mono HBW.out.size))
        have HX4 := Lib.hid (KAt.below HX3.out hbq)
        clear hall hky hbq x0 x1 x2
        obtain ⟨_, x0, x1, x2⟩ := HX4.out
        by_cases hlt : r + 1 < j
        ·have hlt' : (r : Int) + 1 < (j : Int) := by omega
         by_cases hy : y = 0
         ·have HA0 := Lib.hid (HA.out hy)
          clear HA HKY
          subst hy
          have hlt0 : (r : Int) < (j : Int) := by omega
          obtain ⟨b, off, rfl, hcell⟩ := HC.out.2.1.open H2.out (by omega)
          obtain ⟨ax, cx, p0, p1, _⟩ := hcell _ HBV.out r (by omega)
          obtain ⟨ay, cy, q0, q1, _⟩ := hcell _ HBV.out (r + 1) (by omega)
          clear hcell
          have htn : ((r : Int) + 1).toNat = r + 1 := by omega
          have hsub : (r : Int) + 1 - 1 = (r : Int) := by omega
          cases hle : leS (tnth k.tbs (r + 1)).name (tnth k.tbs r).name
          ·have HA1 : Hid (∀ i, i < r + 1 → leS (tnth k.tbs (i + 1)).name (tnth k.tbs i).name = false) := fun i hi => by
            by_cases e : i = r
            ·subst e; exact hle
            ·exact HA0.out.2 i (by omega)
           have HX0 := Lib.hid HA0.out.1
           unfold leS at hle
           go_wp2_with fail
           go_quiet (fail)
           go_wp2_with fail
           go_roundw
           case rel => exact ⟨r + 1, 0, .inl (by omega), by go_num, rfl, by omega, by omega, fun _ => ⟨HX0.out, HA1.out⟩, fun h => absurd rfl h, kbelow_dN HBQ.out _⟩
           case measure => simp [intOf]; omega
          ·have HR : Hid (knE k = 6) := by
            unfold Hid
            rw [HT.out HA0.out.1, if_pos (upN_not (f := fun j => (tnth k.tbs j).name) hlt hle)]
           unfold leS at hle
           go_wp2_with fail
           go_quiet (fail)
           go_wp2_with fail
           go_roundw
           case rel => exact ⟨r + 1, 6, .inl (by omega), by go_num, rfl, by omega, by omega, fun h => by omega, fun _ => HR.out, kbelow_dN HBQ.out _⟩
           case measure => simp [intOf]; omega
         ·have hyB : decide (y = 0) = false := decide_eq_false hy
          have hyE : (y == 0) = false := by simpa using hy
          have HR := Lib.hid (HKY.out hy)
          go_wp2_with fail
          go_ret
          exact ⟨kret_int HR.out.symm, HBV.out⟩
        ·have hlB2 : decide ((r : Int) + 1 < (j : Int)) = false := decide_eq_false (by omega)
         have HR : Hid (knE k = y) := by
          unfold Hid
          by_cases hy : y = 0
          ·rw [HT.out (HA.out hy).1, upN_iff.2 (fun i hi => (HA.out hy).2 i (by omega))]
           simp [hy]
          ·exact HKY.out hy
         clear HA HKY
         go_wp2_with fail
         go_ret
         exact ⟨kret_int HR.out.symm, HBV.out⟩
end Go.Proofs.YtkalfdjmklakdaaGreatDoor
