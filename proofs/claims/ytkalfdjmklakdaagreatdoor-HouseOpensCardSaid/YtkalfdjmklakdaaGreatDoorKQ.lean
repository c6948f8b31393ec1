/-
  Promise Q: entries of a journal: how they lie in memory, how a list of them that came in is opened; which are right.
  Promise Q1: the walks of ledger's Check and of what it calls.
  Promise Q1: the walks of the reference's WrongEntry and CheckJournal.
-/
import Derived.Test.YtkalfdjmklakdaaGreatDoorKP
namespace Go.Proofs.YtkalfdjmklakdaaGreatDoor.Sq.Ldg
open Go.RowKit
structure En where
 day : Int
 ps : List Am
def enth (l : List En) (j : Nat) : En := l.getD j ⟨0, []⟩
def PsAt (w : World) (a : Option Addr) (l : List Am) : Prop := CameA w a l ∧ NamesFit l ∧ l.length ≤ maxLen
theorem PsAt.below {w w' : World} {a : Option Addr} {l : List Am} (h : PsAt w a l) (hb : Below w.heap.size w w') : PsAt w' a l := ⟨h.1.below hb, h.2⟩
def EnIs (w : World) (b o : Nat) (r : En) : Prop := ∃ (a : Option Addr) (c : Nat), w.cell? ⟨b, o, none⟩ = some (.int .i64 r.day) ∧ w.cell? ⟨b, o + 1, none⟩ = some (.slice a r.ps.length c) ∧ PsAt w a r.ps
theorem EnIs.below {w w' : World} {b o : Nat} {r : En} (h : EnIs w b o r) (hb : Below w.heap.size w w') (hB : b < w.heap.size) : EnIs w' b o r := by
 obtain ⟨a, c, h1, h2, h3⟩ := h
 exact ⟨a, c, (hb.cell (p := ⟨b, o, none⟩) hB).trans h1, (hb.cell (p := ⟨b, o + 1, none⟩) hB).trans h2, h3.below hb⟩
def CameE (w : World) (a : Option Addr) (l : List En) : Prop := l.length = 0 ∨ ∃ b off, a = some ⟨b, off, none⟩ ∧ b < w.heap.size ∧ ∀ j, j < l.length → EnIs w b (off + j * 2) (enth l j)
theorem CameE.below {w w' : World} {a : Option Addr} {l : List En} (h : CameE w a l) (hb : Below w.heap.size w w') : CameE w' a l := by
 rcases h with h | ⟨b, off, rfl, hB, h⟩
 ·exact .inl h
 ·exact .inr ⟨b, off, rfl, Nat.lt_of_lt_of_le hB hb.size, fun j hj => (h j hj).below hb hB⟩
theorem CameE.open {w : World} {a : Option Addr} {l : List En} (h : CameE w a l) {n : Nat} (hn : l.length = n) (h0 : 0 < n) : ∃ b off, a = some ⟨b, off, none⟩ ∧ ∀ w', Below w.heap.size w w' → ∀ k, k < n → EnIs w' b (off + k * 2) (enth l k) := by
 rcases h with h | ⟨b, off, rfl, hB, h⟩
 ·omega
 ·exact ⟨b, off, rfl, fun w' hb k hk => (h k (by omega)).below hb hB⟩
theorem enth_mem {l : List En} {j : Nat} (hj : j < l.length) : enth l j ∈ l := by
 unfold enth
 rw [List.getD_eq_getElem?_getD, List.getElem?_eq_getElem hj]
 exact List.getElem_mem hj
theorem mem_enth {l : List En} {x : En} (hx : x ∈ l) : ∃ j, j < l.length ∧ enth l j = x := by
 obtain ⟨j, hj, rfl⟩ := List.mem_iff_getElem.1 hx
 exact ⟨j, hj, by simp [enth, List.getD_eq_getElem?_getD, hj]⟩
theorem cellsEn : Tryz.prog.cellsOf 91 = 2 := by kernel_rfl
theorem cellsPs : Tryz.prog.cellsOf 89 = 1 := by kernel_rfl
set_option maxRecDepth 100000 in
theorem openEn {H : Type} {enc : TypeId × Value → H} {W : World} {fuel : Nat} {cs : List Value} {x : DataW H × List MemPlace} (hl : cs.length = 2)
 (h : DataW.trod enc Tryz.prog W 0 (fun _ => true) true fuel 91 cs = some x) :
 ∃ (d : Int) (a : Option Addr) (c : Nat) (l : List Am), cs = [.int .i64 d, .slice a l.length c] ∧ PsAt W a l ∧ (Lit.int .i64 d).wf = true := by
 obtain ⟨xs, k, hk, hxy, _, hxl, hf⟩ := DataW.trod_struct Tryz.underlying91 h
 match xs, hxl, cs, hl with
 | [y0, y1], _, [v0, v1], _ =>
   have g0 := hf 0 _ rfl
   have g1 := hf 1 _ rfl
   simp [ocells_int, cellsPs] at g0 g1
   obtain ⟨n0, q0, _, w0⟩ := DataW.trod_int Tryz.underlying3 g0
   obtain ⟨a, ln, c, l, rfl, hc, hfit, hn, hm⟩ := openPo g1
   simp at q0
   subst q0
   subst hn
   exact ⟨n0, a, c, l, rfl, ⟨hc, hfit, hm⟩, w0⟩
set_option maxRecDepth 100000 in
theorem openEns {H : Type} {enc : TypeId × Value → H} {W : World} {fuel : Nat} {v : Value} {x : DataW H × List MemPlace}
 (h : DataW.trod enc Tryz.prog W 0 (fun _ => true) true fuel 31 [v] = some x) :
 ∃ (a : Option Addr) (len cap : Nat) (l : List En), v = .slice a len cap ∧ CameE W a l ∧ l.length = len ∧ len ≤ maxLen ∧ ∀ j, j < len → (Lit.int .i64 (enth l j).day).wf = true := by
 rcases Deep.open_slice Tryz.underlying31 h with ⟨hcs, _⟩ | ⟨a', len, cap, m, n, D, Pl, hcs, hb, hl, hm, hmm, _, hx⟩
 ·simp at hcs
  exact ⟨none, 0, 0, [], hcs, .inl rfl, rfl, Nat.zero_le _, fun j hj => by simp at hj⟩
 simp at hcs
 subst hcs
 have hmc : m = cap := by rw [hmm]; simp
 subst hmc
 have each : ∀ i, i < m → ∃ r : En, ∃ (a : Option Addr) (c : Nat), W.cell? (a'.add (i * 2)) = some (.int .i64 r.day) ∧ W.cell? (a'.add (i * 2 + 1)) = some (.slice a r.ps.length c) ∧ PsAt W a r.ps ∧ (Lit.int .i64 r.day).wf = true := by
  intro i hi
  obtain ⟨cs', h1, h2⟩ := hx i hi
  rw [cellsEn] at h1
  obtain ⟨_, hlen, hcell⟩ := World.cells?_some h1
  obtain ⟨d, a, c, l, rfl, hp, hw⟩ := openEn (by simpa using hlen) h2
  have e0 := hcell 0 (by omega)
  have e1 := hcell 1 (by omega)
  rw [Deep.add_add] at e0 e1
  exact ⟨⟨d, l⟩, a, c, by simpa using e0, by simpa using e1, hp, hw⟩
 haveI : Inhabited En := ⟨⟨0, []⟩⟩
 obtain ⟨q, hq⟩ := Deep.choose_lt each
 have hnth : ∀ j, j < len → enth ((List.range len).map q) j = q j := by
  intro j hj
  simp [enth, List.getD_eq_getElem?_getD, hj]
 refine ⟨some a', len, m, (List.range len).map q, rfl, ?_, by simp, by omega, fun j hj => ?_⟩
 ·by_cases h0 : len = 0
  ·exact .inl (by simp [h0])
  ·obtain ⟨b, off, spot⟩ := a'
   obtain ⟨_, _, hc, _⟩ := hq 0 (by omega)
   have hspot : spot = none := by simpa [Addr.add] using World.cell?_spot hc
   subst hspot
   refine .inr ⟨b, off, rfl, oblt_of_cell hc, fun j hj => ?_⟩
   have hj' : j < len := by simpa using hj
   obtain ⟨aj, cj, h1, h2, h3, _⟩ := hq j (by omega)
   simp only [Addr.add_lit] at h1 h2
   rw [hnth j hj']
   exact ⟨aj, cj, by simpa [Nat.add_assoc] using h1, by simpa [Nat.add_assoc] using h2, h3⟩
 ·rw [hnth j hj]
  obtain ⟨_, _, _, _, _, h4⟩ := hq j (by omega)
  exact h4
def sumA : List Am → Int
 | [] => 0
 | p :: r => p.mon + sumA r
theorem sumA_append : ∀ l m : List Am, sumA (l ++ m) = sumA l + sumA m
 | [], m => by simp [sumA]
 | p :: r, m => by rw [List.cons_append, sumA, sumA, sumA_append r m]; omega
theorem atake_snoc {l : List Am} {k : Nat} (h : k < l.length) : l.take (k + 1) = l.take k ++ [anth l k] := by
 rw [List.take_add_one, List.getElem?_eq_getElem h]
 simp [anth, List.getD_eq_getElem?_getD, h]
theorem sumA_step {l : List Am} {k : Nat} (h : k < l.length) : sumA (l.take (k + 1)) = sumA (l.take k) + (anth l k).mon := by
 rw [atake_snoc h, sumA_append]
 simp [sumA]
theorem asB_bd {r : Am} (h : asB r = true) : -1000000000000 ≤ r.mon ∧ r.mon ≤ 1000000000000 ∧ r.mon ≠ 0 := by
 unfold asB someB at h
 simp at h
 have := of_decide_eq_true h.2
 exact ⟨this.1, this.2, h.1⟩
theorem sumA_bd : ∀ {l : List Am}, (∀ r ∈ l, asB r = true) → -(1000000000000 * (l.length : Int)) ≤ sumA l ∧ sumA l ≤ 1000000000000 * (l.length : Int)
 | [], _ => by simp [sumA]
 | p :: r, h => by
   have ih := sumA_bd (l := r) fun x hx => h x (by simp [hx])
   have hp := asB_bd (h p (by simp))
   rw [sumA, List.length_cons]
   push_cast
   omega
def enE (r : En) : Int := if dayB r.day = false then 3 else if r.ps.length < 2 ∨ 20 < r.ps.length then 2 else if ansB r.ps = false then 1 else if assB r.ps = false then 3 else if sumA r.ps = 0 then 0 else 4
def ensE : List En → Int
 | [] => 0
 | r :: l => if enE r = 0 then ensE l else enE r
theorem ensE_at : ∀ {l : List En} {k : Nat}, (∀ j, j < k → enE (enth l j) = 0) → k < l.length → enE (enth l k) ≠ 0 → ensE l = enE (enth l k)
 | [], k, _, hk, _ => by simp at hk
 | t :: r, 0, _, _, hw => by
   have : enth (t :: r) 0 = t := rfl
   rw [this] at hw ⊢
   rw [ensE, if_neg hw]
 | t :: r, k + 1, h, hk, hw => by
   have h0 : enE t = 0 := h 0 (by omega)
   rw [ensE, if_pos h0]
   exact ensE_at (l := r) (k := k) (fun j hj => h (j + 1) (by omega)) (by simpa using hk) hw
theorem ensE_ok : ∀ {l : List En}, (∀ j, j < l.length → enE (enth l j) = 0) → ensE l = 0
 | [], _ => rfl
 | t :: r, h => by
   have h0 : enE t = 0 := h 0 (by simp)
   rw [ensE, if_pos h0]
   exact ensE_ok (l := r) fun j hj => h (j + 1) (by simpa using hj)
theorem ensE_zero : ∀ {l : List En}, ensE l = 0 → ∀ t ∈ l, enE t = 0
 | [], _, t, ht => by simp at ht
 | x :: r, h, t, ht => by
   rw [ensE] at h
   by_cases h0 : enE x = 0
   ·rw [if_pos h0] at h
    rcases List.mem_cons.1 ht with rfl | ht
    ·exact h0
    ·exact ensE_zero h t ht
   ·rw [if_neg h0] at h
    exact absurd h h0
def upD (l : List En) : Bool := (List.range (l.length - 1)).all fun j => decide ((enth l j).day ≤ (enth l (j + 1)).day)
theorem upD_iff {l : List En} : upD l = true ↔ ∀ j, j + 1 < l.length → (enth l j).day ≤ (enth l (j + 1)).day := by
 unfold upD
 rw [List.all_eq_true]
 constructor
 ·intro h j hj
  exact of_decide_eq_true (h j (List.mem_range.2 (by omega)))
 ·intro h j hj
  exact decide_eq_true (h j (by have := List.mem_range.1 hj; omega))
theorem upD_not {l : List En} {j : Nat} (hj : j + 1 < l.length) (h : (enth l (j + 1)).day < (enth l j).day) : upD l = false := by
 rw [Bool.eq_false_iff]
 intro e
 have := upD_iff.1 e j hj
 omega
def jrE (l : List En) : Int := if 100 < l.length then 2 else if ensE l = 0 then (if upD l = true then 0 else 4) else ensE l
end Go.Proofs.YtkalfdjmklakdaaGreatDoor.Sq.Ldg
namespace Go.Proofs.YtkalfdjmklakdaaGreatDoor.Sq.Ldg
open Go.RowKit
theorem isSome_any (n : Int) (w : World) : Calls Tryz.prog 195 #[.int .i64 n] w fun e w' => e = .returned (.bool (someB n)) ∧ w' = w := by
 by_cases h : n = 0
 ·have h' : (n != 0) = false := by simp [h]
  have H : Hid (someB n = false) := Lib.hid (by unfold someB; simp [h])
  clear h
  go_enter Tryz.func195, Tryz.ntmps195
  go_wp2_with fail
  go_ret
  exact ⟨kret_bool H.out.symm, rfl⟩
 ·have h' : (n != 0) = true := by simp [h]
  have H : Hid (someB n = monB n) := Lib.hid (by unfold someB; simp [h])
  clear h
  go_enter Tryz.func195, Tryz.ntmps195
  go_wp2_with (first | (go_at_call 212; refine (isMoney_any _ _).mono ?_; rintro e w' ⟨rfl, h'⟩; subst w'))
  go_ret
  exact ⟨kret_bool H.out.symm, rfl⟩
theorem isDay_any (n : Int) (w : World) : Calls Tryz.prog 22 #[.int .i64 n] w fun e w' => e = .returned (.bool (dayB n)) ∧ w' = w := by
 by_cases h1 : 0 ≤ n
 ·by_cases h2 : n ≤ 73048
  ·have H : Hid (dayB n = true) := decide_eq_true ⟨h1, h2⟩
   go_enter Tryz.func22, Tryz.ntmps22
   go_wp2
   go_ret
   exact ⟨kret_bool (by rw [H.out]; try (simp <;> omega)), rfl⟩
  ·have H : Hid (dayB n = false) := decide_eq_false (by omega)
   go_enter Tryz.func22, Tryz.ntmps22
   go_wp2
   go_ret
   exact ⟨kret_bool (by rw [H.out]; try (simp <;> omega)), rfl⟩
 ·have H : Hid (dayB n = false) := decide_eq_false (by omega)
  have hd : decide (0 ≤ n) = false := decide_eq_false h1
  go_enter Tryz.func22, Tryz.ntmps22
  go_wp2
  go_ret
  exact ⟨kret_bool (by rw [H.out]), rfl⟩
theorem isDay_ref (n : Int) (w : World) : Calls Tryz.prog 37 #[.int .i64 n] w fun e w' => e = .returned (.bool (dayB n)) ∧ w' = w := by
 by_cases h1 : 0 ≤ n
 ·by_cases h2 : n ≤ 73048
  ·have H : Hid (dayB n = true) := decide_eq_true ⟨h1, h2⟩
   go_enter Tryz.func37, Tryz.ntmps37
   go_wp2
   go_ret
   exact ⟨kret_bool (by rw [H.out]; try (simp <;> omega)), rfl⟩
  ·have H : Hid (dayB n = false) := decide_eq_false (by omega)
   go_enter Tryz.func37, Tryz.ntmps37
   go_wp2
   go_ret
   exact ⟨kret_bool (by rw [H.out]; try (simp <;> omega)), rfl⟩
 ·have H : Hid (dayB n = false) := decide_eq_false (by omega)
  have hd : decide (0 ≤ n) = false := decide_eq_false h1
  go_enter Tryz.func37, Tryz.ntmps37
  go_wp2
  go_ret
  exact ⟨kret_bool (by rw [H.out]), rfl⟩
set_option maxHeartbeats 1000000 in
theorem notNameE (s : ByteArray) (m : Int) (w : World) :
 Calls Tryz.prog 199 #[.agg #[.string s, .int .i64 m]] w fun e w' => e = .returned (.bool (!anB ⟨s, m⟩)) ∧ Below w.heap.size w w' := by
 have HB0 := Lib.hid (kbelow_box w (.cells #[.string s, .int .i64 m] 179))
 go_enter Tryz.func199, Tryz.ntmps199
 go_wp2_with fail
 refine (IsName_any s _).mono ?_
 rintro e w1 ⟨b, rfl, hb, hbel⟩
 have HB1 := Lib.hid (HB0.out.trans (hbel.mono HB0.out.size))
 have HE : Hid (anB ⟨s, m⟩ = b) := by
  unfold Hid anB namB
  cases b
  ·exact decide_eq_false (fun h => by have := hb.2 h; cases this)
  ·exact decide_eq_true (hb.1 rfl)
 clear hb hbel
 go_wp2_with fail
 go_ret
 exact ⟨kret_bool (by rw [HE.out]), HB1.out⟩
set_option maxHeartbeats 1000000 in
theorem notSomeE (s : ByteArray) (m : Int) (w : World) :
 Calls Tryz.prog 200 #[.agg #[.string s, .int .i64 m]] w fun e w' => e = .returned (.bool (!asB ⟨s, m⟩)) ∧ Below w.heap.size w w' := by
 have HB0 := Lib.hid (kbelow_box w (.cells #[.string s, .int .i64 m] 179))
 go_enter Tryz.func200, Tryz.ntmps200
 go_wp2_with fail
 refine (isSome_any _ _).mono ?_
 rintro e w1 ⟨rfl, h'⟩
 subst w1
 go_wp2_with fail
 go_ret
 exact ⟨rfl, HB0.out⟩
set_option maxRecDepth 100000 in
set_option maxHeartbeats 1000000 in
theorem indexNames (a : Option Addr) (n cap : Nat) (l : List Am) (w : World) (hc : CameA w a l) (hn : l.length = n) (hm : n ≤ maxLen) :
 Calls Tryz.prog 236 #[.slice a n cap, .func (.func 199) #[] #[]] w fun e w' => ∃ i : Int, e = .returned (.int .i64 i) ∧ -1 ≤ i ∧ (i = -1 ↔ ansB l = true) ∧ Below w.heap.size w w' := by
 have hm' : n ≤ 9223372036854775807 := by unfold maxLen at hm; omega
 have HO := Lib.hid (fun h0 => hc.open hn h0)
 clear hm hc
 go_enter Tryz.func236, Tryz.ntmps236
 go_wp2_with fail
 go_loopw [8] (fun i wr => ∃ k : Nat, k ≤ n ∧ i = .int .i64 k ∧ (∀ j, j < k → anB (anth l j) = true) ∧ Below w.heap.size w wr) (fun i _ => n - (intOf i).toNat)
 case atStart => exact ⟨0, Nat.zero_le _, rfl, fun j hj => by omega, Below.refl _ _⟩
 case round =>
  obtain ⟨k, hk, rfl, hall, hb⟩ := hrel
  have HA := Lib.hid hall
  have HB := Lib.hid hb
  clear hall hb
  by_cases hlt : k < n
  ·have hlt' : (k : Int) < (n : Int) := by omega
   obtain ⟨b, off, rfl, hcell⟩ := HO.out (by omega)
   obtain ⟨x0, x1⟩ := hcell wr HB.out k hlt
   clear hcell
   cases hr : anB (anth l k)
   ·have HE : Hid (ansB l = false) := Lib.hid (all_not (l := l) (j := k) (by omega) hr)
    go_wp2_with fail
    refine (notNameE _ _ _).mono ?_
    rintro e w1 ⟨rfl, hb1⟩
    have HB1 := Lib.hid (HB.out.trans (hb1.mono HB.out.size))
    have hr' : anB ⟨(anth l k).name, (anth l k).mon⟩ = false := hr
    rw [hr']
    clear hb1 x0 x1
    go_wp2_with fail
    go_ret
    exact ⟨k, rfl, by omega, ⟨fun h => by omega, fun h => by rw [HE.out] at h; cases h⟩, HB1.out⟩
   ·go_wp2_with fail
    refine (notNameE _ _ _).mono ?_
    rintro e w1 ⟨rfl, hb1⟩
    have HB1 := Lib.hid (HB.out.trans (hb1.mono HB.out.size))
    have hr' : anB ⟨(anth l k).name, (anth l k).mon⟩ = true := hr
    rw [hr']
    clear hb1 x0 x1
    go_wp2_with fail
    go_roundw
    case rel =>
     refine ⟨k + 1, by omega, by go_num, ?_, HB1.out⟩
     intro j hj
     by_cases e : j = k
     ·subst e; exact hr
     ·exact HA.out j (by omega)
    case measure => simp [intOf]; omega
  ·have hkn : k = n := by omega
   subst hkn
   have HL : Hid (ansB l = true) := Lib.hid (all_of (l := l) (fun j hj => HA.out j (by omega)))
   go_wp2_with fail
   go_ret
   exact ⟨-1, rfl, by omega, ⟨fun _ => HL.out, fun _ => rfl⟩, HB.out⟩
set_option maxHeartbeats 1000000 in
theorem containsNames (a : Option Addr) (n cap : Nat) (l : List Am) (w : World) (hc : CameA w a l) (hn : l.length = n) (hm : n ≤ maxLen) :
 Calls Tryz.prog 198 #[.slice a n cap, .func (.func 199) #[] #[]] w fun e w' => e = .returned (.bool (!ansB l)) ∧ Below w.heap.size w w' := by
 have HC := Lib.hid hc
 have HM := Lib.hid hm
 clear hc hm
 go_enter Tryz.func198, Tryz.ntmps198
 go_wp2_with fail
 refine (indexNames a n cap l _ HC.out hn HM.out).mono ?_
 rintro e w1 ⟨i, rfl, hi, hall, hb⟩
 have HB := Lib.hid hb
 clear hb
 have HR : Hid ((!ansB l) = decide (0 ≤ i)) := by
  unfold Hid
  cases h : ansB l
  ·rw [h] at hall
   have : i ≠ -1 := fun e => by have := hall.1 e; cases this
   simp; omega
  ·obtain rfl := hall.2 h
   simp
 clear hall
 go_wp2_with fail
 go_ret
 exact ⟨kret_bool (by rw [HR.out]), HB.out⟩
set_option maxRecDepth 100000 in
set_option maxHeartbeats 1000000 in
theorem indexSome (a : Option Addr) (n cap : Nat) (l : List Am) (w : World) (hc : CameA w a l) (hn : l.length = n) (hm : n ≤ maxLen) :
 Calls Tryz.prog 236 #[.slice a n cap, .func (.func 200) #[] #[]] w fun e w' => ∃ i : Int, e = .returned (.int .i64 i) ∧ -1 ≤ i ∧ (i = -1 ↔ assB l = true) ∧ Below w.heap.size w w' := by
 have hm' : n ≤ 9223372036854775807 := by unfold maxLen at hm; omega
 have HO := Lib.hid (fun h0 => hc.open hn h0)
 clear hm hc
 go_enter Tryz.func236, Tryz.ntmps236
 go_wp2_with fail
 go_loopw [8] (fun i wr => ∃ k : Nat, k ≤ n ∧ i = .int .i64 k ∧ (∀ j, j < k → asB (anth l j) = true) ∧ Below w.heap.size w wr) (fun i _ => n - (intOf i).toNat)
 case atStart => exact ⟨0, Nat.zero_le _, rfl, fun j hj => by omega, Below.refl _ _⟩
 case round =>
  obtain ⟨k, hk, rfl, hall, hb⟩ := hrel
  have HA := Lib.hid hall
  have HB := Lib.hid hb
  clear hall hb
  by_cases hlt : k < n
  ·have hlt' : (k : Int) < (n : Int) := by omega
   obtain ⟨b, off, rfl, hcell⟩ := HO.out (by omega)
   obtain ⟨x0, x1⟩ := hcell wr HB.out k hlt
   clear hcell
   cases hr : asB (anth l k)
   ·have HE : Hid (assB l = false) := Lib.hid (all_not (l := l) (j := k) (by omega) hr)
    go_wp2_with fail
    refine (notSomeE _ _ _).mono ?_
    rintro e w1 ⟨rfl, hb1⟩
    have HB1 := Lib.hid (HB.out.trans (hb1.mono HB.out.size))
    have hr' : asB ⟨(anth l k).name, (anth l k).mon⟩ = false := hr
    rw [hr']
    clear hb1 x0 x1
    go_wp2_with fail
    go_ret
    exact ⟨k, rfl, by omega, ⟨fun h => by omega, fun h => by rw [HE.out] at h; cases h⟩, HB1.out⟩
   ·go_wp2_with fail
    refine (notSomeE _ _ _).mono ?_
    rintro e w1 ⟨rfl, hb1⟩
    have HB1 := Lib.hid (HB.out.trans (hb1.mono HB.out.size))
    have hr' : asB ⟨(anth l k).name, (anth l k).mon⟩ = true := hr
    rw [hr']
    clear hb1 x0 x1
    go_wp2_with fail
    go_roundw
    case rel =>
     refine ⟨k + 1, by omega, by go_num, ?_, HB1.out⟩
     intro j hj
     by_cases e : j = k
     ·subst e; exact hr
     ·exact HA.out j (by omega)
    case measure => simp [intOf]; omega
  ·have hkn : k = n := by omega
   subst hkn
   have HL : Hid (assB l = true) := Lib.hid (all_of (l := l) (fun j hj => HA.out j (by omega)))
   go_wp2_with fail
   go_ret
   exact ⟨-1, rfl, by omega, ⟨fun _ => HL.out, fun _ => rfl⟩, HB.out⟩
set_option maxHeartbeats 1000000 in
theorem containsSome (a : Option Addr) (n cap : Nat) (l : List Am) (w : World) (hc : CameA w a l) (hn : l.length = n) (hm : n ≤ maxLen) :
 Calls Tryz.prog 198 #[.slice a n cap, .func (.func 200) #[] #[]] w fun e w' => e = .returned (.bool (!assB l)) ∧ Below w.heap.size w w' := by
 have HC := Lib.hid hc
 have HM := Lib.hid hm
 clear hc hm
 go_enter Tryz.func198, Tryz.ntmps198
 go_wp2_with fail
 refine (indexSome a n cap l _ HC.out hn HM.out).mono ?_
 rintro e w1 ⟨i, rfl, hi, hall, hb⟩
 have HB := Lib.hid hb
 clear hb
 have HR : Hid ((!assB l) = decide (0 ≤ i)) := by
  unfold Hid
  cases h : assB l
  ·rw [h] at hall
   have : i ≠ -1 := fun e => by have := hall.1 e; cases this
   simp; omega
  ·obtain rfl := hall.2 h
   simp
 clear hall
 go_wp2_with fail
 go_ret
 exact ⟨kret_bool (by rw [HR.out]), HB.out⟩
set_option maxRecDepth 100000 in
set_option maxHeartbeats 1000000 in
theorem sum_any (a : Option Addr) (n cap : Nat) (l : List Am) (w : World) (hc : CameA w a l) (hn : l.length = n) (hok : ∀ r ∈ l, asB r = true) (h20 : n ≤ 20) :
 Calls Tryz.prog 201 #[.slice a n cap] w fun e w' => e = .returned (.int .i64 (sumA l)) ∧ Below w.heap.size w w' := by
 have HO := Lib.hid (fun h0 => hc.open hn h0)
 have HN := Lib.hid hn
 have HOK := Lib.hid hok
 clear hc hn hok
 go_enter Tryz.func201, Tryz.ntmps201
 go_wp2_with fail
 go_loopw [3, 8] (fun s i wr => ∃ k : Nat, k ≤ n ∧ i = .int .i64 k ∧ s = .int .i64 (sumA (l.take k)) ∧ Below w.heap.size w wr) (fun _ i _ => n - (intOf i).toNat)
 case atStart => exact ⟨0, Nat.zero_le _, rfl, rfl, Below.refl _ _⟩
 case round =>
  obtain ⟨k, hk, rfl, rfl, hb⟩ := hrel
  have HB := Lib.hid hb
  clear hb
  by_cases hlt : k < n
  ·have hlt' : (k : Int) < (n : Int) := by omega
   obtain ⟨b, off, rfl, hcell⟩ := HO.out (by omega)
   obtain ⟨x0, x1⟩ := hcell wr HB.out k hlt
   clear hcell
   have HST := Lib.hid (sumA_step (l := l) (k := k) (by rw [HN.out]; exact hlt))
   have HBD := Lib.hid (sumA_bd (l := l.take k) (fun r hr => HOK.out r (List.mem_of_mem_take hr)))
   have HLK : Hid ((l.take k).length ≤ 20) := Lib.hid (by rw [List.length_take]; have := HN.out; omega)
   have HOT := Lib.hid (asB_bd (HOK.out _ (anth_mem (l := l) (j := k) (by rw [HN.out]; exact hlt))))
   obtain ⟨c, hcc⟩ : ∃ c, sumA (l.take k) = c := ⟨_, rfl⟩
   rw [hcc] at HST HBD
   rw [hcc]
   clear hcc
   obtain ⟨m, hm⟩ : ∃ m, (anth l k).mon = m := ⟨_, rfl⟩
   rw [hm] at x1 HST HOT
   obtain ⟨nm, hnm⟩ : ∃ nm, (anth l k).name = nm := ⟨_, rfl⟩
   rw [hnm] at x0
   clear hm hnm
   have hwrap : IntKind.i64.wrap (c + m) = c + m := IntWalk.i64_in _ (by
    have h1 := HBD.out
    have h2 := HLK.out
    have h3 := HOT.out
    omega)
   have HBX := Lib.hid (HB.out.trans ((kbelow_box wr (.cells #[.string nm, .int .i64 m] 179)).mono HB.out.size))
   go_wp2_with fail
   go_roundw
   case rel => exact ⟨k + 1, by omega, by go_num, by rw [HST.out], HBX.out⟩
   case measure => simp [intOf]; omega
  ·have hkn : k = n := by omega
   subst hkn
   have HTK : Hid (l.take k = l) := Lib.hid (by rw [← HN.out, List.take_length])
   rw [HTK.out]
   go_wp2_with fail
   go_ret
   exact ⟨rfl, HB.out⟩
set_option maxRecDepth 100000 in
set_option maxHeartbeats 2000000 in
theorem checkEntry_any (d : Int) (a : Option Addr) (n cap : Nat) (l : List Am) (w : World) (hp : PsAt w a l) (hn : l.length = n) :
 Calls Tryz.prog 152 #[.agg #[.int .i64 d, .slice a n cap]] w fun e w' => e = .returned (.int .i64 (enE ⟨d, l⟩)) ∧ Below w.heap.size w w' := by
 have HC := Lib.hid hp.1
 have HM : Hid (n ≤ maxLen) := Lib.hid (by rw [← hn]; exact hp.2.2)
 have HN := Lib.hid hn
 have hm' : n ≤ 9223372036854775807 := by have := HM.out; unfold maxLen at this; omega
 have HE : Hid (enE ⟨d, l⟩ = if dayB d = false then 3 else if n < 2 ∨ 20 < n then 2 else if ansB l = false then 1 else if assB l = false then 3 else if sumA l = 0 then 0 else 4) := by unfold Hid enE; rw [hn]
 have HB0 := Lib.hid (kbelow_box w (.cells #[.int .i64 d, .slice a n cap] 91))
 clear hp hn
 cases hd : dayB d
 ·rw [hd, if_pos rfl] at HE
  go_enter Tryz.func152, Tryz.ntmps152
  go_wp2_with (first | (go_at_call 22; refine (isDay_any _ _).mono ?_; rintro e w' ⟨rfl, h'⟩; subst w'; rw [hd]))
  go_ret
  exact ⟨kret_int HE.out.symm, HB0.out⟩
 ·rw [hd, if_neg (by decide)] at HE
  by_cases h2 : n < 2
  ·have h2' : (n : Int) < 2 := by omega
   rw [if_pos (.inl h2)] at HE
   go_enter Tryz.func152, Tryz.ntmps152
   go_wp2_with (first | (go_at_call 22; refine (isDay_any _ _).mono ?_; rintro e w' ⟨rfl, h'⟩; subst w'; rw [hd]))
   go_ret
   exact ⟨kret_int HE.out.symm, HB0.out⟩
  ·have h2' : decide ((n : Int) < 2) = false := decide_eq_false (by omega)
   by_cases h20 : 20 < n
   ·have h20' : (20 : Int) < (n : Int) := by omega
    rw [if_pos (.inr h20)] at HE
    go_enter Tryz.func152, Tryz.ntmps152
    go_wp2_with (first | (go_at_call 22; refine (isDay_any _ _).mono ?_; rintro e w' ⟨rfl, h'⟩; subst w'; rw [hd]))
    go_ret
    exact ⟨kret_int HE.out.symm, HB0.out⟩
   ·have h20' : decide ((20 : Int) < (n : Int)) = false := decide_eq_false (by omega)
    rw [if_neg (by omega)] at HE
    have HSZ : Hid (n ≤ 20) := Lib.hid (by omega)
    clear h20 h2
    go_enter Tryz.func152, Tryz.ntmps152
    go_wp2_with (first | (go_at_call 22; refine (isDay_any _ _).mono ?_; rintro e w' ⟨rfl, h'⟩; subst w'; rw [hd]))
    refine (containsNames a n cap l _ (HC.out.below HB0.out) HN.out HM.out).mono ?_
    rintro e w1 ⟨rfl, hb1⟩
    have HB1 := Lib.hid (HB0.out.trans (hb1.mono HB0.out.size))
    have k1 : w1.cell? ⟨w.heap.size, 1, none⟩ = some (.slice a n cap) := (hb1.cell (p := ⟨w.heap.size, 1, none⟩) (by simp)).trans (by simp)
    clear hb1
    cases h1 : ansB l
    ·rw [h1, if_pos rfl] at HE
     go_wp2_with fail
     go_ret
     exact ⟨kret_int HE.out.symm, HB1.out⟩
    ·rw [h1, if_neg (by decide)] at HE
     go_wp2_with fail
     refine (containsSome a n cap l _ (HC.out.below HB1.out) HN.out HM.out).mono ?_
     rintro e w2 ⟨rfl, hb2⟩
     have HB2 := Lib.hid (HB1.out.trans (hb2.mono HB1.out.size))
     have k2 : w2.cell? ⟨w.heap.size, 1, none⟩ = some (.slice a n cap) := (hb2.cell (p := ⟨w.heap.size, 1, none⟩) (oblt_of_cell k1)).trans k1
     clear hb2 k1
     cases h3 : assB l
     ·rw [h3, if_pos rfl] at HE
      go_wp2_with fail
      go_ret
      exact ⟨kret_int HE.out.symm, HB2.out⟩
     ·rw [h3, if_neg (by decide)] at HE
      go_wp2_with fail
      refine (sum_any a n cap l _ (HC.out.below HB2.out) HN.out (List.all_eq_true.1 h3) HSZ.out).mono ?_
      rintro e w3 ⟨rfl, hb3⟩
      have HB3 := Lib.hid (HB2.out.trans (hb3.mono HB2.out.size))
      clear hb3
      by_cases h0 : sumA l = 0
      ·rw [if_pos h0] at HE
       rw [h0]
       go_wp2_with fail
       go_ret
       exact ⟨kret_int HE.out.symm, HB3.out⟩
      ·rw [if_neg h0] at HE
       have h0' : (sumA l != 0) = true := by simp [h0]
       obtain ⟨c, hc⟩ : ∃ c, sumA l = c := ⟨_, rfl⟩
       rw [hc] at h0' ⊢
       clear h0 hc
       go_wp2_with fail
       go_ret
       exact ⟨kret_int HE.out.symm, HB3.out⟩
set_option maxRecDepth 100000 in
set_option maxHeartbeats 2000000 in
theorem Check_any (a : Option Addr) (n cap : Nat) (l : List En) (w : World) (hc : CameE w a l) (hn : l.length = n) :
 Calls Tryz.prog 96 #[.slice a n cap] w fun e w' => e = .returned (.int .i64 (jrE l)) ∧ Below w.heap.size w w' := by
 have HO := Lib.hid (fun h0 => hc.open hn h0)
 have HN := Lib.hid hn
 have HE : Hid (jrE l = if 100 < l.length then 2 else if ensE l = 0 then (if upD l = true then 0 else 4) else ensE l) := rfl
 clear hc hn
 by_cases h400 : 100 < n
 ·have h4 : (100 : Int) < (n : Int) := by omega
  have HR : Hid (jrE l = 2) := Lib.hid (by rw [HE.out, HN.out, if_pos h400])
  go_enter Tryz.func96, Tryz.ntmps96
  go_wp2_with fail
  go_ret
  exact ⟨kret_int HR.out.symm, Below.refl _ _⟩
 ·have h4 : ¬ ((100 : Int) < (n : Int)) := by omega
  rw [HN.out, if_neg h400] at HE
  go_enter Tryz.func96, Tryz.ntmps96
  go_wp2_with fail
  go_loopw [12] (fun i wr => ∃ k : Nat, k ≤ n ∧ i = .int .i64 k ∧ (∀ j, j < k → enE (enth l j) = 0) ∧ Below w.heap.size w wr) (fun i _ => n - (intOf i).toNat)
  case atStart => exact ⟨0, Nat.zero_le _, rfl, fun j hj => by omega, Below.refl _ _⟩
  case round =>
   obtain ⟨k, hk, rfl, hall, hb⟩ := hrel
   have HA := Lib.hid hall
   have HB := Lib.hid hb
   clear hall hb
   by_cases hlt : k < n
   ·have hlt' : (k : Int) < (n : Int) := by omega
    obtain ⟨b, off, rfl, hcell⟩ := HO.out (by omega)
    obtain ⟨ax, cx, x0, x1, hp⟩ := hcell wr HB.out k hlt
    clear hcell
    have HP := Lib.hid hp
    have HBX := Lib.hid (HB.out.trans (Below.mono (B := wr.heap.size) (kbelow_box wr (.cells #[.int .i64 (enth l k).day, .slice ax (enth l k).ps.length cx] 91)) HB.out.size))
    have HK := Lib.hid (fun w (hp : PsAt w ax _) => checkEntry_any (enth l k).day ax (enth l k).ps.length cx (enth l k).ps w hp rfl)
    clear hp
    by_cases hz : enE (enth l k) = 0
    ·have HZ := Lib.hid hz
     have hz' : enE ⟨(enth l k).day, (enth l k).ps⟩ = 0 := hz
     rw [hz'] at HK
     clear hz hz'
     go_wp2_with fail
     refine (HK.out _ (HP.out.below (kbelow_box wr (.cells #[.int .i64 (enth l k).day, .slice ax (enth l k).ps.length cx] 91)))).mono ?_
     rintro e w1 ⟨rfl, hb1⟩
     have HB1 := Lib.hid (HBX.out.trans (hb1.mono HBX.out.size))
     clear hb1
     go_wp2_with fail
     go_roundw
     case rel =>
      refine ⟨k + 1, by omega, by go_num, ?_, HB1.out⟩
      intro j hj
      by_cases e : j = k
      ·subst e; exact HZ.out
      ·exact HA.out j (by omega)
     case measure => simp [intOf]; omega
    ·have HR : Hid (jrE l = enE (enth l k)) := Lib.hid (by
      have e : ensE l = enE (enth l k) := ensE_at HA.out (by rw [HN.out]; exact hlt) hz
      rw [HE.out, e, if_neg hz])
     obtain ⟨c, hcc⟩ : ∃ c, enE (enth l k) = c := ⟨_, rfl⟩
     have hcc' : enE ⟨(enth l k).day, (enth l k).ps⟩ = c := hcc
     rw [hcc'] at HK
     rw [hcc] at HR hz
     have hz' : (c != 0) = true := by simp [hz]
     clear hcc hcc' hz
     go_wp2_with fail
     refine (HK.out _ (HP.out.below (kbelow_box wr (.cells #[.int .i64 (enth l k).day, .slice ax (enth l k).ps.length cx] 91)))).mono ?_
     rintro e w1 ⟨rfl, hb1⟩
     have HB1 := Lib.hid (HBX.out.trans (hb1.mono HBX.out.size))
     clear hb1
     go_wp2_with fail
     go_ret
     exact ⟨kret_int HR.out.symm, HB1.out⟩
   ·have hkn : k = n := by omega
    subst hkn
    have HZ : Hid (ensE l = 0) := Lib.hid (ensE_ok (fun j hj => HA.out j (by rw [HN.out] at hj; exact hj)))
    rw [HZ.out, if_pos rfl] at HE
    clear HZ HA
    go_wp2_with fail
    generalize wr = wu at *
    go_loopw [6] (fun i wq => ∃ r : Nat, (r + 1 ≤ k ∨ r = 0) ∧ i = .int .i64 ((r : Int) + 1) ∧ Below w.heap.size w wq ∧ ∀ j, j < r → (enth l j).day ≤ (enth l (j + 1)).day) (fun i _ => k - (intOf i).toNat)
    case atStart => exact ⟨0, .inr rfl, rfl, HB.out, fun j hj => by omega⟩
    case round =>
     clear HB
     obtain ⟨r, hrk, rfl, hb, hall⟩ := hrel
     have HA := Lib.hid hall
     have HB := Lib.hid hb
     clear hall hb
     by_cases hlt : r + 1 < k
     ·have hlt' : (r : Int) + 1 < (k : Int) := by omega
      have hlt0 : (r : Int) < (k : Int) := by omega
      obtain ⟨b, off, rfl, hcell⟩ := HO.out (by omega)
      have hx := hcell _ HB.out r (by omega)
      have hy := hcell _ HB.out (r + 1) (by omega)
      clear hcell
      obtain ⟨_, _, x0, _⟩ := hx; obtain ⟨_, _, y0, _⟩ := hy
      have hsub : (r : Int) + 1 - 1 = (r : Int) := by omega
      have htn : ((r : Int) + 1).toNat = r + 1 := by omega
      have HUN := Lib.hid (fun h => upD_not (l := l) (j := r) (by rw [HN.out]; exact hlt) h)
      obtain ⟨u, hu⟩ : ∃ u, (enth l r).day = u := ⟨_, rfl⟩
      obtain ⟨v, hv⟩ : ∃ v, (enth l (r + 1)).day = v := ⟨_, rfl⟩
      rw [hu] at x0 HUN
      rw [hv] at y0 HUN
      have HU := Lib.hid hu
      have HV := Lib.hid hv
      clear hu hv
      by_cases hd : u ≤ v
      ·have hd1 : decide (v < u) = false := decide_eq_false (by omega)
       have HD := Lib.hid hd
       go_wp2_with fail
       go_quiet (fail)
       go_wp2_with fail
       go_roundw
       case rel =>
        refine ⟨r + 1, .inl (by omega), by go_num, kbelow_dN HB.out _, ?_⟩
        intro j hj
        by_cases e : j = r
        ·subst e; rw [HU.out, HV.out]; exact HD.out
        ·exact HA.out j (by omega)
       case measure => simp [intOf]; omega
      ·have hd1 : v < u := by omega
       have HT := Lib.hid (HUN.out hd1)
       rw [HT.out] at HE
       go_wp2_with fail
       go_quiet (fail)
       go_wp2_with fail
       go_ret
       exact ⟨kret_int HE.out.symm, kbelow_dN HB.out _⟩
     ·have hnl : ¬ ((r : Int) + 1 < (k : Int)) := by omega
      have HT : Hid (upD l = true) := upD_iff.2 (fun j hj => HA.out j (by rw [HN.out] at hj; omega))
      rw [HT.out] at HE
      go_wp2_with fail
      go_ret
      exact ⟨kret_int HE.out.symm, HB.out⟩
end Go.Proofs.YtkalfdjmklakdaaGreatDoor.Sq.Ldg
namespace Go.Proofs.YtkalfdjmklakdaaGreatDoor.Sq.Ldg
open Go.RowKit
def farK (l : List Am) (k : Nat) : Bool := (List.range k).any fun j => !asB (anth l j)
theorem farK_succ (l : List Am) (k : Nat) : farK l (k + 1) = (farK l k || !asB (anth l k)) := by simp [farK, List.range_succ]
theorem farK_all {l : List Am} {n : Nat} (hn : l.length = n) : farK l n = !assB l := by
 subst hn
 cases h : assB l
 ·cases e : farK l l.length
  ·exfalso
   have : assB l = true := all_of (P := asB) (l := l) (fun j hj => by
    unfold farK at e
    rw [List.any_eq_false] at e
    have := e j (List.mem_range.2 hj)
    simpa using this)
   rw [h] at this; cases this
  ·rfl
 ·show farK l l.length = false
  unfold farK
  rw [List.any_eq_false]
  intro j hj
  have := all_nth (P := asB) (l := l) h (List.mem_range.1 hj)
  simp [this]
theorem farK_pre {l : List Am} {k : Nat} (hk : k ≤ l.length) (h : farK l k = false) : ∀ r ∈ l.take k, asB r = true := by
 intro r hr
 obtain ⟨j, hj, rfl⟩ := List.mem_iff_getElem.1 hr
 rw [List.length_take] at hj
 unfold farK at h
 rw [List.any_eq_false] at h
 have := h j (List.mem_range.2 (by omega))
 have hj2 : j < l.length := by omega
 simpa [anth, List.getD_eq_getElem?_getD, hj2] using this
set_option maxRecDepth 100000 in
set_option maxHeartbeats 4000000 in
theorem wrongEntry_ref (d : Int) (a : Option Addr) (n cap : Nat) (l : List Am) (w : World) (hp : PsAt w a l) (hn : l.length = n) :
 Calls Tryz.prog 109 #[.agg #[.int .i64 d, .slice a n cap]] w fun e w' => e = .returned (.int .i64 (enE ⟨d, l⟩)) ∧ Below w.heap.size w w' := by
 have HFIT := Lib.hid hp.2.1
 have HM : Hid (n ≤ maxLen) := Lib.hid (by rw [← hn]; exact hp.2.2)
 have HN := Lib.hid hn
 have HC := Lib.hid (fun h0 => hp.1.open hn h0)
 have hm' : n ≤ 9223372036854775807 := by have := HM.out; unfold maxLen at this; omega
 have HE : Hid (enE ⟨d, l⟩ = if dayB d = false then 3 else if n < 2 ∨ 20 < n then 2 else if ansB l = false then 1 else if assB l = false then 3 else if sumA l = 0 then 0 else 4) := by unfold Hid enE; rw [hn]
 have HB0 := Lib.hid (kbelow_box w (.cells #[.int .i64 d, .slice a n cap] 91))
 clear hp hn
 cases hd : dayB d
 ·rw [hd, if_pos rfl] at HE
  go_enter Tryz.func109, Tryz.ntmps109
  go_wp2_with (first | (go_at_call 37; refine (isDay_ref _ _).mono ?_; rintro e w' ⟨rfl, h'⟩; subst w'; rw [hd]))
  go_ret
  exact ⟨kret_int HE.out.symm, HB0.out⟩
 ·rw [hd, if_neg (by decide)] at HE
  by_cases h2 : n < 2
  ·have h2' : (n : Int) < 2 := by omega
   rw [if_pos (.inl h2)] at HE
   go_enter Tryz.func109, Tryz.ntmps109
   go_wp2_with (first | (go_at_call 37; refine (isDay_ref _ _).mono ?_; rintro e w' ⟨rfl, h'⟩; subst w'; rw [hd]))
   go_ret
   exact ⟨kret_int HE.out.symm, HB0.out⟩
  ·have h2' : decide ((n : Int) < 2) = false := decide_eq_false (by omega)
   by_cases h20 : 20 < n
   ·have h20' : (20 : Int) < (n : Int) := by omega
    rw [if_pos (.inr h20)] at HE
    go_enter Tryz.func109, Tryz.ntmps109
    go_wp2_with (first | (go_at_call 37; refine (isDay_ref _ _).mono ?_; rintro e w' ⟨rfl, h'⟩; subst w'; rw [hd]))
    go_ret
    exact ⟨kret_int HE.out.symm, HB0.out⟩
   ·have h20' : decide ((20 : Int) < (n : Int)) = false := decide_eq_false (by omega)
    rw [if_neg (by omega)] at HE
    have HSZ : Hid (n ≤ 20) := Lib.hid (by omega)
    clear h20 h2
    go_enter Tryz.func109, Tryz.ntmps109
    go_wp2_with (first | (go_at_call 37; refine (isDay_ref _ _).mono ?_; rintro e w' ⟨rfl, h'⟩; subst w'; rw [hd]))
    go_loopw [3, 4, 5] (fun fv sv i wr => ∃ (k : Nat) (f : Bool) (s : Int), k ≤ n ∧ fv = .bool f ∧ sv = .int .i64 s ∧ i = .int .i64 k ∧ farK l k = f ∧ (f = false → s = sumA (l.take k)) ∧ (∀ j, j < k → anB (anth l j) = true) ∧ Below w.heap.size w wr ∧ wr.cell? ⟨w.heap.size, 1, none⟩ = some (.slice a n cap)) (fun _ _ i _ => n - (intOf i).toNat)
    case atStart => exact ⟨0, false, 0, Nat.zero_le _, rfl, rfl, rfl, rfl, fun _ => rfl, fun j hj => by omega, HB0.out, by simp⟩
    case round =>
     obtain ⟨k, f, s, hk, rfl, rfl, rfl, hf, hs, hall, hb, k4⟩ := hrel
     have HF := Lib.hid hf
     have HS := Lib.hid hs
     have HA := Lib.hid hall
     have HB := Lib.hid hb
     clear hf hs hall hb
     by_cases hlt : k < n
     ·have hlt' : (k : Int) < (n : Int) := by omega
      obtain ⟨b, off, rfl, hcell⟩ := HC.out (by omega)
      have HO := Lib.hid hcell
      clear hcell
      obtain ⟨x0, x1⟩ := HO.out wr HB.out k hlt
      have HKL : Hid (k < l.length) := Lib.hid (by rw [HN.out]; exact hlt)
      go_wp2_with fail
      refine (isName_ref _ _ (by have := HFIT.out k HKL.out; unfold maxLen at this; omega)).mono ?_
      rintro e w1 ⟨bn, rfl, hbn, hbel⟩
      have HB2 := Lib.hid (HB.out.trans (hbel.mono HB.out.size))
      have k5 : w1.cell? ⟨w.heap.size, 1, none⟩ = some (.slice (some ⟨b, off, none⟩) n cap) := (hbel.cell (p := ⟨w.heap.size, 1, none⟩) (oblt_of_cell k4)).trans k4
      have K4 := Lib.hid k5
      clear hbel x0 x1 k4
      obtain ⟨x0, x1⟩ := HO.out w1 HB2.out k hlt
      cases bn
      ·have HR : Hid (enE ⟨d, l⟩ = 1) := by
        unfold Hid
        rw [HE.out]
        exact if_pos (all_not (P := anB) (l := l) (j := k) HKL.out (decide_eq_false (fun h => by have := hbn.2 h; cases this)))
       clear hbn
       go_wp2_with fail
       go_ret
       exact ⟨kret_int HR.out.symm, HB2.out⟩
      ·have HY : Hid (∀ j, j < k + 1 → anB (anth l j) = true) := fun j hj => by
        by_cases e : j = k
        ·subst e; exact decide_eq_true (hbn.1 rfl)
        ·exact HA.out j (by omega)
       clear hbn
       cases f
       ·have HFM : Hid (farK l (k + 1) = !(!((anth l k).mon == 0) && monB (anth l k).mon)) := by unfold Hid; rw [farK_succ, HF.out]; rfl
        have HSE := Lib.hid (HS.out rfl)
        have HBD := Lib.hid (sumA_bd (l := l.take k) (farK_pre (by have := HKL.out; omega) HF.out))
        have HST := Lib.hid (sumA_step (l := l) HKL.out)
        have HLK : Hid ((l.take k).length ≤ 20) := Lib.hid (by rw [List.length_take]; have := HSZ.out; have := HN.out; omega)
        rw [← HSE.out] at HBD HST
        by_cases hm0 : (anth l k).mon = 0
        ·have HFN : Hid (farK l (k + 1) = true) := by unfold Hid; rw [HFM.out, hm0]; rfl
         rw [hm0] at x1
         clear hm0
         go_wp2_with fail
         go_roundw
         case rel => exact ⟨k + 1, true, s, by omega, rfl, rfl, by go_num, HFN.out, fun h => by (first | cases h | (exfalso; simp at h)), HY.out, HB2.out, K4.out⟩
         case measure => simp [intOf]; omega
        ·have hm1 : ((anth l k).mon == 0) = false := by simp [hm0]
         rw [hm1] at HFM
         clear hm0
         go_wp2_with fail
         refine (isMoney_ref _ _).mono ?_
         rintro e w2 ⟨rfl, h'⟩
         subst w2
         cases hmb : monB (anth l k).mon
         ·have HFN : Hid (farK l (k + 1) = true) := by unfold Hid; rw [HFM.out, hmb]; rfl
          go_wp2_with fail
          go_roundw
          case rel => exact ⟨k + 1, true, s, by omega, rfl, rfl, by go_num, HFN.out, fun h => by (first | cases h | (exfalso; simp at h)), HY.out, HB2.out, K4.out⟩
          case measure => simp [intOf]; omega
         ·have HFN : Hid (farK l (k + 1) = false) := by unfold Hid; rw [HFM.out, hmb]; rfl
          have hmo := of_decide_eq_true hmb
          have hwrap : IntKind.i64.wrap (s + (anth l k).mon) = s + (anth l k).mon := IntWalk.i64_in _ (by
           have h1 := HBD.out
           have h2 := HLK.out
           omega)
          obtain ⟨mo, hmoe⟩ : ∃ mo, (anth l k).mon = mo := ⟨_, rfl⟩
          rw [hmoe] at x1 HST hwrap
          clear hmo hmoe hmb hm1 HFM
          go_wp2_with fail
          go_roundw
          case rel => exact ⟨k + 1, false, s + mo, by omega, rfl, rfl, by go_num, HFN.out, fun _ => HST.out.symm, HY.out, HB2.out, K4.out⟩
          case measure => simp [intOf]; omega
       ·have HFN : Hid (farK l (k + 1) = true) := by unfold Hid; rw [farK_succ, HF.out]; rfl
        go_wp2_with fail
        go_roundw
        case rel => exact ⟨k + 1, true, s, by omega, rfl, rfl, by go_num, HFN.out, fun h => by (first | cases h | (exfalso; simp at h)), HY.out, HB2.out, K4.out⟩
        case measure => simp [intOf]; omega
     ·have hkn : k = n := by omega
      subst hkn
      have HL : Hid (ansB l = true) := all_of (P := anB) (l := l) (fun j hj => HA.out j (by have := HN.out; omega))
      have H1 := farK_all HN.out
      rw [HF.out] at H1
      have HR : Hid (enE ⟨d, l⟩ = if f = true then 3 else if s = 0 then 0 else 4) := by
       unfold Hid
       rw [HE.out, HL.out, if_neg (by decide)]
       cases f
       ·have e := HS.out rfl
        rw [← HN.out, List.take_length] at e
        cases hq : assB l
        ·rw [hq] at H1; cases H1
        ·rw [e]; rfl
       ·cases hq : assB l
        ·rfl
        ·rw [hq] at H1; cases H1
      clear H1 HE HS
      cases f
      ·by_cases hs0 : s = 0
       ·rw [if_neg (by decide), if_pos hs0] at HR
        subst hs0
        go_wp2_with fail
        go_ret
        exact ⟨kret_int HR.out.symm, HB.out⟩
       ·rw [if_neg (by decide), if_neg hs0] at HR
        have hs1 : (s != 0) = true := by simp [hs0]
        clear hs0
        go_wp2_with fail
        go_ret
        exact ⟨kret_int HR.out.symm, HB.out⟩
      ·go_wp2_with fail
       go_ret
       exact ⟨kret_int HR.out.symm, HB.out⟩
set_option maxRecDepth 100000 in
set_option maxHeartbeats 2000000 in
theorem checkJournal_ref (a : Option Addr) (n cap : Nat) (l : List En) (w : World) (hc : CameE w a l) (hn : l.length = n) :
 Calls Tryz.prog 47 #[.slice a n cap] w fun e w' => e = .returned (.int .i64 (jrE l)) ∧ Below w.heap.size w w' := by
 have HO := Lib.hid (fun h0 => hc.open hn h0)
 have HN := Lib.hid hn
 have HE : Hid (jrE l = if 100 < l.length then 2 else if ensE l = 0 then (if upD l = true then 0 else 4) else ensE l) := rfl
 clear hc hn
 by_cases h400 : 100 < n
 ·have h4 : (100 : Int) < (n : Int) := by omega
  have HR : Hid (jrE l = 2) := Lib.hid (by rw [HE.out, HN.out, if_pos h400])
  go_enter Tryz.func47, Tryz.ntmps47
  go_wp2_with fail
  go_ret
  exact ⟨kret_int HR.out.symm, Below.refl _ _⟩
 ·have h4 : ¬ ((100 : Int) < (n : Int)) := by omega
  rw [HN.out, if_neg h400] at HE
  go_enter Tryz.func47, Tryz.ntmps47
  go_wp2_with fail
  go_loopw [3] (fun i wr => ∃ k : Nat, k ≤ n ∧ i = .int .i64 k ∧ (∀ j, j < k → enE (enth l j) = 0) ∧ Below w.heap.size w wr) (fun i _ => n - (intOf i).toNat)
  case atStart => exact ⟨0, Nat.zero_le _, rfl, fun j hj => by omega, Below.refl _ _⟩
  case round =>
   obtain ⟨k, hk, rfl, hall, hb⟩ := hrel
   have HA := Lib.hid hall
   have HB := Lib.hid hb
   clear hall hb
   by_cases hlt : k < n
   ·have hlt' : (k : Int) < (n : Int) := by omega
    obtain ⟨b, off, rfl, hcell⟩ := HO.out (by omega)
    obtain ⟨ax, cx, x0, x1, hp⟩ := hcell wr HB.out k hlt
    clear hcell
    have HP := Lib.hid hp
    have HBX := Lib.hid (HB.out.trans (Below.mono (B := wr.heap.size) (Below.refl wr.heap.size wr) HB.out.size))
    have HK := Lib.hid (fun w (hp : PsAt w ax _) => wrongEntry_ref (enth l k).day ax (enth l k).ps.length cx (enth l k).ps w hp rfl)
    clear hp
    by_cases hz : enE (enth l k) = 0
    ·have HZ := Lib.hid hz
     have hz' : enE ⟨(enth l k).day, (enth l k).ps⟩ = 0 := hz
     rw [hz'] at HK
     clear hz hz'
     go_wp2_with fail
     refine (HK.out _ (HP.out.below (Below.refl wr.heap.size wr))).mono ?_
     rintro e w1 ⟨rfl, hb1⟩
     have HB1 := Lib.hid (HBX.out.trans (hb1.mono HBX.out.size))
     clear hb1
     go_wp2_with fail
     go_roundw
     case rel =>
      refine ⟨k + 1, by omega, by go_num, ?_, HB1.out⟩
      intro j hj
      by_cases e : j = k
      ·subst e; exact HZ.out
      ·exact HA.out j (by omega)
     case measure => simp [intOf]; omega
    ·have HR : Hid (jrE l = enE (enth l k)) := Lib.hid (by
      have e : ensE l = enE (enth l k) := ensE_at HA.out (by rw [HN.out]; exact hlt) hz
      rw [HE.out, e, if_neg hz])
     obtain ⟨c, hcc⟩ : ∃ c, enE (enth l k) = c := ⟨_, rfl⟩
     have hcc' : enE ⟨(enth l k).day, (enth l k).ps⟩ = c := hcc
     rw [hcc'] at HK
     rw [hcc] at HR hz
     have hz' : (c != 0) = true := by simp [hz]
     clear hcc hcc' hz
     go_wp2_with fail
     refine (HK.out _ (HP.out.below (Below.refl wr.heap.size wr))).mono ?_
     rintro e w1 ⟨rfl, hb1⟩
     have HB1 := Lib.hid (HBX.out.trans (hb1.mono HBX.out.size))
     clear hb1
     go_wp2_with fail
     go_ret
     exact ⟨kret_int HR.out.symm, HB1.out⟩
   ·have hkn : k = n := by omega
    subst hkn
    have HZ : Hid (ensE l = 0) := Lib.hid (ensE_ok (fun j hj => HA.out j (by rw [HN.out] at hj; exact hj)))
    rw [HZ.out, if_pos rfl] at HE
    clear HZ HA
    go_wp2_with fail
    generalize wr = wu at *
    go_loopw [5] (fun i wq => ∃ r : Nat, (r + 1 ≤ k ∨ r = 0) ∧ i = .int .i64 ((r : Int) + 1) ∧ Below w.heap.size w wq ∧ ∀ j, j < r → (enth l j).day ≤ (enth l (j + 1)).day) (fun i _ => k - (intOf i).toNat)
    case atStart => exact ⟨0, .inr rfl, rfl, HB.out, fun j hj => by omega⟩
    case round =>
     clear HB
     obtain ⟨r, hrk, rfl, hb, hall⟩ := hrel
     have HA := Lib.hid hall
     have HB := Lib.hid hb
     clear hall hb
     by_cases hlt : r + 1 < k
     ·have hlt' : (r : Int) + 1 < (k : Int) := by omega
      have hlt0 : (r : Int) < (k : Int) := by omega
      obtain ⟨b, off, rfl, hcell⟩ := HO.out (by omega)
      have hx := hcell _ HB.out r (by omega)
      have hy := hcell _ HB.out (r + 1) (by omega)
      clear hcell
      obtain ⟨_, _, x0, _⟩ := hx; obtain ⟨_, _, y0, _⟩ := hy
      have hsub : (r : Int) + 1 - 1 = (r : Int) := by omega
      have htn : ((r : Int) + 1).toNat = r + 1 := by omega
      have HUN := Lib.hid (fun h => upD_not (l := l) (j := r) (by rw [HN.out]; exact hlt) h)
      obtain ⟨u, hu⟩ : ∃ u, (enth l r).day = u := ⟨_, rfl⟩
      obtain ⟨v, hv⟩ : ∃ v, (enth l (r + 1)).day = v := ⟨_, rfl⟩
      rw [hu] at x0 HUN
      rw [hv] at y0 HUN
      have HU := Lib.hid hu
      have HV := Lib.hid hv
      clear hu hv
      by_cases hd : u ≤ v
      ·have hd1 : decide (v < u) = false := decide_eq_false (by omega)
       have HD := Lib.hid hd
       go_wp2_with fail
       go_quiet (fail)
       go_wp2_with fail
       go_roundw
       case rel =>
        refine ⟨r + 1, .inl (by omega), by go_num, kbelow_dN HB.out _, ?_⟩
        intro j hj
        by_cases e : j = r
        ·subst e; rw [HU.out, HV.out]; exact HD.out
        ·exact HA.out j (by omega)
       case measure => simp [intOf]; omega
      ·have hd1 : v < u := by omega
       have HT := Lib.hid (HUN.out hd1)
       rw [HT.out] at HE
       go_wp2_with fail
       go_quiet (fail)
       go_wp2_with fail
       go_ret
       exact ⟨kret_int HE.out.symm, kbelow_dN HB.out _⟩
     ·have hnl : ¬ ((r : Int) + 1 < (k : Int)) := by omega
      have HT : Hid (upD l = true) := upD_iff.2 (fun j hj => HA.out j (by rw [HN.out] at hj; omega))
      rw [HT.out] at HE
      go_wp2_with fail
      go_ret
      exact ⟨kret_int HE.out.symm, HB.out⟩
end Go.Proofs.YtkalfdjmklakdaaGreatDoor.Sq.Ldg
