/-
  Promise O1: what is wrong with a run, and who may not bring it to a state, as pure functions over its eight numbers (R 0 the state, R (1 + i) who brought it to i); how they stand in memory; the walks of isPerson, apartFrom, barredFrom, isBarred.
  Promise O1: the walks of Check, and of the reference's Barred and CheckRun: each answers runE.
  Promise O1: the walks of the reference's Barred and CheckRun.
-/
import Derived.Test.YtkalfdjmklakdaaGreatDoorKFM
import Derived.Lib.Hide
import Derived.Laws.Unary
import Derived.ChangeSame
import Derived.Maps.OwnSet
import Derived.Lib.QuietBelow
import Derived.Laws.Rows
namespace Go.Proofs.YtkalfdjmklakdaaGreatDoor.Rn
open Go.RowKit Go.Maps Go.WideMaps
theorem gret_bool {a b : Bool} (h : a = b) : Ending.returned (.bool a) = .returned (.bool b) := by rw [h]
theorem gret_int {k : IntKind} {a b : Int} (h : a = b) : Ending.returned (.int k a) = .returned (.int k b) := by rw [h]
theorem gbelow_dN {B : Nat} {a w : World} (h : Below B a w) (k : Nat) : Below B a (w.drewN k) := h.trans ⟨rfl, rfl, rfl, Nat.le_refl _, fun _ _ => rfl⟩
theorem gbelow_box (w : World) (o : Obj) : Below w.heap.size w (w.alloc o) := (Below.refl w.heap.size w).alloc (Nat.le_refl _) o
def Came (w : World) (a : Option Addr) (l : List Int) : Prop := l.length = 0 ∨ ∃ b off, a = some ⟨b, off, none⟩ ∧ At w b off l
theorem Came.below {w w' : World} {a : Option Addr} {l : List Int} (h : Came w a l) (hb : Below w.heap.size w w') : Came w' a l := by
 rcases h with h | ⟨b, off, rfl, h⟩
 ·exact .inl h
 ·exact .inr ⟨b, off, rfl, h.below hb h.1⟩
theorem Came.open {w : World} {a : Option Addr} {l : List Int} (h : Came w a l) {n : Nat} (hn : l.length = n) (h0 : 0 < n) : ∃ b off, a = some ⟨b, off, none⟩ ∧ ∀ w', Below w.heap.size w w' → ∀ k, k < n → w'.cell? ⟨b, off + k, none⟩ = some (.int .i64 (nth l k)) := by
 rcases h with h | ⟨b, off, rfl, h⟩
 ·omega
 ·exact ⟨b, off, rfl, fun w' hb k hk => (h.below hb h.1).2 k (by omega)⟩
theorem gat_lit (w : World) (l : List Int) (t : TypeId) : At (w.alloc (.cells (l.map (Value.int .i64)).toArray t)) w.heap.size 0 l := by
 refine ⟨by simp, fun j hj => ?_⟩
 rw [Nat.zero_add, World.cell?_alloc_at (w := w) _ _ _ _ rfl]
 simp [nth, List.getD_eq_getElem?_getD, hj]
def perB (x : Int) : Bool := decide (1 ≤ x ∧ x ≤ 999)
theorem perB_iff {x : Int} : perB x = true ↔ 1 ≤ x ∧ x ≤ 999 := by unfold perB; exact decide_eq_true_iff
theorem perB_no {x : Int} : perB x = false ↔ x < 1 ∨ 999 < x := by unfold perB; rw [decide_eq_false_iff_not]; omega
def apL (st : Int) : List Int := if st = 2 then [1] else if st = 3 then [1, 2] else if st = 5 then [3, 4] else []
theorem apL_other {st : Int} (h2 : st ≠ 2) (h3 : st ≠ 3) (h5 : st ≠ 5) : apL st = [] := by unfold apL; rw [if_neg h2, if_neg h3, if_neg h5]
theorem apL_bd (st : Int) : (apL st).length ≤ 2 ∧ ∀ j, j < (apL st).length → ∃ e : Nat, nth (apL st) j = (e : Int) ∧ e ≤ 4 := by
 by_cases h2 : st = 2
 ·subst h2
  exact ⟨by decide, fun j hj => ⟨1, by match j, hj with | 0, _ => rfl, by omega⟩⟩
 ·by_cases h3 : st = 3
  ·subst h3
   refine ⟨by decide, fun j hj => ?_⟩
   match j, hj with
   | 0, _ => exact ⟨1, rfl, by omega⟩
   | 1, _ => exact ⟨2, rfl, by omega⟩
  ·by_cases h5 : st = 5
   ·subst h5
    refine ⟨by decide, fun j hj => ?_⟩
    match j, hj with
    | 0, _ => exact ⟨3, rfl, by omega⟩
    | 1, _ => exact ⟨4, rfl, by omega⟩
   ·rw [apL_other h2 h3 h5]
    exact ⟨by decide, fun j hj => absurd hj (by simp)⟩
def metN (R : Nat → Int) (L : List Int) (who : Int) : Nat → Bool
 | 0 => false
 | k + 1 => metN R L who k || R (1 + (nth L k).toNat) == who
def barB (R : Nat → Int) (st who : Int) : Bool := metN R (apL st) who (apL st).length
theorem barB_other {R : Nat → Int} {st who : Int} (h2 : st ≠ 2) (h3 : st ≠ 3) (h5 : st ≠ 5) : barB R st who = false := by unfold barB; rw [apL_other h2 h3 h5]; rfl
theorem barB_2 {R : Nat → Int} {who : Int} : barB R 2 who = (R 2 == who) := rfl
theorem barB_3 {R : Nat → Int} {who : Int} : barB R 3 who = (R 2 == who || R 3 == who) := rfl
theorem barB_5 {R : Nat → Int} {who : Int} : barB R 5 who = (R 4 == who || R 5 == who) := rfl
def WfR (R : Nat → Int) : Prop := ∀ j, j < 8 → (Lit.int .i64 (R j)).wf = true
theorem gcells8 (w : World) (R : Nat → Int) (t : TypeId) {j : Nat} (hj : j < 8) : (w.alloc (.cells #[.int .i64 (R 0), .int .i64 (R 1), .int .i64 (R 2), .int .i64 (R 3), .int .i64 (R 4), .int .i64 (R 5), .int .i64 (R 6), .int .i64 (R 7)] t)).cell? ⟨w.heap.size, j, none⟩ = some (.int .i64 (R j)) := by
 rw [World.cell?_alloc_at (w := w) _ _ _ _ rfl]
 match j, hj with
 | 0, _ => rfl
 | 1, _ => rfl
 | 2, _ => rfl
 | 3, _ => rfl
 | 4, _ => rfl
 | 5, _ => rfl
 | 6, _ => rfl
 | 7, _ => rfl
def RBox (w : World) (b : Nat) (R : Nat → Int) : Prop := b < w.heap.size ∧ ∀ j, j < 8 → w.cell? ⟨b, j, none⟩ = some (.int .i64 (R j))
theorem RBox.made (w : World) (R : Nat → Int) (t : TypeId) : RBox (w.alloc (.cells #[.int .i64 (R 0), .int .i64 (R 1), .int .i64 (R 2), .int .i64 (R 3), .int .i64 (R 4), .int .i64 (R 5), .int .i64 (R 6), .int .i64 (R 7)] t)) w.heap.size R := ⟨by simp, fun _ hj => gcells8 w R t hj⟩
theorem RBox.below {w w' : World} {b : Nat} {R : Nat → Int} (h : RBox w b R) (hb : Below w.heap.size w w') : RBox w' b R := ⟨Nat.lt_of_lt_of_le h.1 hb.size, fun j hj => (hb.cell (p := ⟨b, j, none⟩) h.1).trans (h.2 j hj)⟩
theorem RBox.belowB {B : Nat} {w w' : World} {b : Nat} {R : Nat → Int} (h : RBox w b R) (hb : Below B w w') (hB : b < B) : RBox w' b R := ⟨Nat.lt_of_lt_of_le h.1 hb.size, fun j hj => (hb.cell (p := ⟨b, j, none⟩) hB).trans (h.2 j hj)⟩
theorem RBox.cells {w : World} {b : Nat} {R : Nat → Int} (h : RBox w b R) : w.cell? ⟨b, 0, none⟩ = some (.int .i64 (R 0)) ∧ w.cell? ⟨b, 1, none⟩ = some (.int .i64 (R 1)) ∧ w.cell? ⟨b, 2, none⟩ = some (.int .i64 (R 2)) ∧ w.cell? ⟨b, 3, none⟩ = some (.int .i64 (R 3)) ∧ w.cell? ⟨b, 4, none⟩ = some (.int .i64 (R 4)) ∧ w.cell? ⟨b, 5, none⟩ = some (.int .i64 (R 5)) ∧ w.cell? ⟨b, 6, none⟩ = some (.int .i64 (R 6)) ∧ w.cell? ⟨b, 7, none⟩ = some (.int .i64 (R 7)) :=
 ⟨h.2 0 (by omega), h.2 1 (by omega), h.2 2 (by omega), h.2 3 (by omega), h.2 4 (by omega), h.2 5 (by omega), h.2 6 (by omega), h.2 7 (by omega)⟩
theorem isPerson_any (n : Int) (w : World) : Calls Tryz.prog 73 #[.int .i64 n] w fun e w' => e = .returned (.bool (perB n)) ∧ w' = w := by
 by_cases h1 : 1 ≤ n
 ·have h1B : decide (1 ≤ n) = true := decide_eq_true h1
  by_cases h2 : n ≤ 999
  ·have H : Hid (perB n = true) := perB_iff.2 ⟨h1, h2⟩
   go_enter Tryz.func73, Tryz.ntmps73
   go_wp2
   go_ret
   exact ⟨gret_bool (by rw [H.out]; try simp <;> omega), rfl⟩
  ·have H : Hid (perB n = false) := perB_no.2 (.inr (by omega))
   have h2B : decide (n ≤ 999) = false := decide_eq_false h2
   go_enter Tryz.func73, Tryz.ntmps73
   go_wp2
   go_ret
   exact ⟨gret_bool (by rw [H.out]; try simp <;> omega), rfl⟩
 ·have H : Hid (perB n = false) := perB_no.2 (.inl (by omega))
  have h1B : decide (1 ≤ n) = false := decide_eq_false h1
  go_enter Tryz.func73, Tryz.ntmps73
  go_wp2
  go_ret
  exact ⟨gret_bool (by rw [H.out]; try simp <;> omega), rfl⟩
theorem isPerson_ref (n : Int) (w : World) : Calls Tryz.prog 39 #[.int .i64 n] w fun e w' => e = .returned (.bool (perB n)) ∧ w' = w := by
 by_cases h1 : 1 ≤ n
 ·have h1B : decide (1 ≤ n) = true := decide_eq_true h1
  by_cases h2 : n ≤ 999
  ·have H : Hid (perB n = true) := perB_iff.2 ⟨h1, h2⟩
   go_enter Tryz.func39, Tryz.ntmps39
   go_wp2
   go_ret
   exact ⟨gret_bool (by rw [H.out]; try simp <;> omega), rfl⟩
  ·have H : Hid (perB n = false) := perB_no.2 (.inr (by omega))
   have h2B : decide (n ≤ 999) = false := decide_eq_false h2
   go_enter Tryz.func39, Tryz.ntmps39
   go_wp2
   go_ret
   exact ⟨gret_bool (by rw [H.out]; try simp <;> omega), rfl⟩
 ·have H : Hid (perB n = false) := perB_no.2 (.inl (by omega))
  have h1B : decide (1 ≤ n) = false := decide_eq_false h1
  go_enter Tryz.func39, Tryz.ntmps39
  go_wp2
  go_ret
  exact ⟨gret_bool (by rw [H.out]; try simp <;> omega), rfl⟩
set_option maxHeartbeats 1000000 in
theorem apartFrom_any (st : Int) (w : World) : Calls Tryz.prog 235 #[.int .i64 st] w fun e w' => ∃ a c, e = .returned (.slice a (apL st).length c) ∧ ((apL st).length = 0 ∨ ∃ g, a = some ⟨g, 0, none⟩ ∧ w.heap.size ≤ g ∧ At w' g 0 (apL st)) ∧ Below w.heap.size w w' := by
 by_cases h : st = 2
 ·subst h
  go_enter Tryz.func235, Tryz.ntmps235
  go_wp2_with fail
  go_ret
  exact ⟨_, _, rfl, .inr ⟨w.heap.size, rfl, Nat.le_refl _, gat_lit w [1] _⟩, gbelow_box _ _⟩
 ·have h2B : decide (st = 2) = false := decide_eq_false h
  have h2E : (st == 2) = false := by simpa using h
  have H2 := Lib.hid h
  clear h
  by_cases h : st = 3
  ·subst h
   go_enter Tryz.func235, Tryz.ntmps235
   go_wp2_with fail
   go_ret
   exact ⟨_, _, rfl, .inr ⟨w.heap.size, rfl, Nat.le_refl _, gat_lit w [1, 2] _⟩, gbelow_box _ _⟩
  ·have h3B : decide (st = 3) = false := decide_eq_false h
   have h3E : (st == 3) = false := by simpa using h
   have H3 := Lib.hid h
   clear h
   by_cases h : st = 5
   ·subst h
    go_enter Tryz.func235, Tryz.ntmps235
    go_wp2_with fail
    go_ret
    exact ⟨_, _, rfl, .inr ⟨w.heap.size, rfl, Nat.le_refl _, gat_lit w [3, 4] _⟩, gbelow_box _ _⟩
   ·have h5B : decide (st = 5) = false := decide_eq_false h
    have h5E : (st == 5) = false := by simpa using h
    rw [apL_other H2.out H3.out h]
    clear h
    go_enter Tryz.func235, Tryz.ntmps235
    go_wp2_with fail
    go_ret
    exact ⟨_, _, rfl, .inl (by simp), Below.refl _ _⟩
theorem intLaw : Keyed Tryz.prog 3 := int_keyed Tryz.underlying3
theorem zeroInt (w : World) : (zeroValue 3).run Tryz.prog w = .ok (.int .i64 0) w := by kernel_rfl
theorem make_map0 (w : World) : (Instr.makeMap 224 none).run Tryz.prog w = .ok (.map (some w.heap.size)) (w.alloc (.map #[] 0)) := by
 simp [Instr.makeMap]
def KeyIs (w : World) (b n : Nat) (g : Int → Bool) : Prop := ∃ D : DataW Unit, w.ownsMap Tryz.prog 3 (plainElem (H := Unit) Tryz.prog 3) b n D ∧ ∀ x, Maps.has D (.int .i64 x) = g x
theorem key_put {D : DataW Unit} {g : Int → Bool} {z : Int} (e : DataW Unit) (hm : IsMap D) (h : ∀ x, Maps.has D (.int .i64 x) = g x) (x : Int) :
 Maps.has (D.put (.int .i64 z) e) (.int .i64 x) = (g x || z == x) := by
 by_cases q : x = z
 ·subst q
  rw [has_put_same hm (show WideAt.IsKeyLit (.int .i64 x) from trivial)]
  simp
 ·rw [has_put_other (by intro q'; cases q'; exact q rfl), h]
  have : (z == x) = false := by simpa using fun e => q e.symm
  rw [this, Bool.or_false]
theorem gtrans {w w1 w2 : World} {row : Option Nat} (h : w.grownBy w1 row) (k : w1.grownBy w2 row) : w.grownBy w2 row :=
 ⟨k.os.trans h.os, k.tape.trans h.tape, k.output.trans h.output, Nat.le_trans h.size k.size, fun j hj hr => (k.block j (Nat.lt_of_lt_of_le hj h.size) hr).trans (h.block j hj hr)⟩
def KeysRet (w w' : World) (e : Ending) (g : Int → Bool) : Prop := ∃ b n, e = .returned (.map (some b)) ∧ KeyIs w' b n g ∧ Below w.heap.size w w'
set_option maxRecDepth 100000 in
set_option maxHeartbeats 1000000 in
theorem barredFrom_any (R : Nat → Int) (st : Int) (w : World) (hwf : WfR R) :
 Calls Tryz.prog 190 #[.agg #[.int .i64 (R 0), .int .i64 (R 1), .int .i64 (R 2), .int .i64 (R 3), .int .i64 (R 4), .int .i64 (R 5), .int .i64 (R 6), .int .i64 (R 7)], .int .i64 st] w fun e w' => KeysRet w w' e (fun x => barB R st x) := by
 obtain ⟨hn2, hel⟩ := apL_bd st
 have HEL := Lib.hid hel
 have HWF := Lib.hid hwf
 have HX := Lib.hid (RBox.made w R 29)
 have HB0 := Lib.hid (gbelow_box w (.cells #[.int .i64 (R 0), .int .i64 (R 1), .int .i64 (R 2), .int .i64 (R 3), .int .i64 (R 4), .int .i64 (R 5), .int .i64 (R 6), .int .i64 (R 7)] 29))
 have HB1 := Lib.hid (HB0.out.alloc HB0.out.size (.map #[] 0))
 have HA := Lib.hid (fun w => apartFrom_any st w)
 have HR : Hid (∀ x, barB R st x = metN R (apL st) x (apL st).length) := fun x => rfl
 have hmm := make_map0
 clear hel hwf
 generalize apL st = L at *
 generalize hn : L.length = n at *
 have HNL := Lib.hid hn
 clear hn
 go_enter Tryz.func190, Tryz.ntmps190
 go_wp2_with fail
 refine (HA.out _).mono ?_
 rintro e w1 ⟨a, c, rfl, hc, hb1⟩
 have HO := Lib.hid hc
 have HB2 := Lib.hid (HB1.out.trans (hb1.mono HB1.out.size))
 have HX1 := Lib.hid ((HX.out.below (gbelow_box _ (.map #[] 0))).below hb1)
 have HM1 : Hid (KeyIs w1 (w.heap.size + 1) 0 (fun x => metN R L x 0)) := by
  refine ⟨.map [], ?_, fun x => by simp [Maps.has, metN]⟩
  have h0 := World.ownsMap_made (w.alloc (.cells #[.int .i64 (R 0), .int .i64 (R 1), .int .i64 (R 2), .int .i64 (R 3), .int .i64 (R 4), .int .i64 (R 5), .int .i64 (R 6), .int .i64 (R 7)] 29)) Tryz.prog 3 (plainElem (H := Unit) Tryz.prog 3)
  obtain ⟨es, clock, hb, h3⟩ := h0
  refine ⟨es, clock, ?_, h3⟩
  have := hb1.block (w.heap.size + 1) (by simp)
  rw [this]
  simpa using hb
 have HZ1 : Hid (w.heap.size + 1 < w1.heap.size) := by
  have := hb1.size
  simp at this
  unfold Hid
  omega
 clear hc hb1 HX HB0 HB1 HA hmm
 go_wp2_with fail
 go_loopw [12] (fun i wr => ∃ k : Nat, k ≤ n ∧ i = .int .i64 k ∧ KeyIs wr (w.heap.size + 1) k (fun x => metN R L x k) ∧ w1.grownBy wr (some (w.heap.size + 1))) (fun i _ => n - (intOf i).toNat)
 case atStart => exact ⟨0, Nat.zero_le _, rfl, HM1.out, ⟨rfl, rfl, rfl, Nat.le_refl _, fun _ _ _ => rfl⟩⟩
 case round =>
  obtain ⟨k, hk, rfl, ⟨D, hown, hD⟩, hg⟩ := hrel
  have HD := Lib.hid hD
  have HG := Lib.hid hg
  clear hD hg
  by_cases hlt : k < n
  ·have hlt' : (k : Int) < (n : Int) := by omega
   rcases HO.out with h0 | ⟨g, rfl, hgs, hat⟩
   ·have := HNL.out
    omega
   ·have hgs' : w.heap.size + 1 < g := by simp at hgs; omega
    obtain ⟨e', he', he4⟩ := HEL.out k hlt
    have x0 : wr.cell? ⟨g, k, none⟩ = some (.int .i64 (e' : Int)) := by
     rw [World.cell?_of_block (w := w1) (HG.out.block g hat.1 (by intro q; cases q; omega))]
     have := hat.2 k (by rw [HNL.out]; exact hlt)
     rw [Nat.zero_add, he'] at this
     exact this
    have x1 : wr.cell? ⟨w.heap.size, 1 + e', none⟩ = some (.int .i64 (R (1 + e'))) := by
     rw [World.cell?_of_block (w := w1) (HG.out.block w.heap.size HX1.out.1 (by intro q; simp at q))]
     exact HX1.out.2 (1 + e') (by omega)
    have h7 : (e' : Int) < 7 := by omega
    have hkey : keyOf Tryz.prog 3 (.int .i64 (R (1 + e'))) = some (.int .i64 (R (1 + e'))) := keyOf_int_mk Tryz.underlying3 (HWF.out _ (by omega))
    have HE : Hid (nth L k = (e' : Int)) := he'
    clear hat hgs hgs' he'
    go_wp2_with (first
     | (at_mapUpdate; refine wpList_mapUpdate_own _ rfl _ _ _ 224 rfl 3 3 intLaw Tryz.underlying224 (plainElem (H := Unit) Tryz.prog 3) (w.heap.size + 1) k _ rfl hown (by unfold maxLen; omega) _ _ _ rfl rfl hkey (.lit (.int .i64 (e' : Int))) [] (plainElem_int Tryz.underlying3 (WalkArith.wf_i64 (by omega))) ?_; intro w2 hown2 hgrow2))
    go_roundw
    case rel =>
     refine ⟨k + 1, by omega, by go_num, ⟨_, hown2, fun x => ?_⟩, gtrans HG.out hgrow2⟩
     rw [key_put _ hown.isMap HD.out]
     show _ = (metN R L x k || R (1 + (nth L k).toNat) == x)
     rw [HE.out]
     rfl
    case measure => simp [intOf]; omega
  ·obtain rfl : k = n := by omega
   go_wp2_with fail
   go_ret
   refine ⟨_, _, rfl, ⟨D, hown, fun x => ?_⟩, HB2.out.grown HG.out HB2.out.size (fun j hj => by cases hj; omega)⟩
   exact (HD.out x).trans (HR.out x).symm
set_option maxRecDepth 100000 in
set_option maxHeartbeats 1000000 in
theorem isBarred_any (R : Nat → Int) (st who : Int) (w : World) (hwf : WfR R) (hw : (Lit.int .i64 who).wf = true) :
 Calls Tryz.prog 145 #[.agg #[.int .i64 (R 0), .int .i64 (R 1), .int .i64 (R 2), .int .i64 (R 3), .int .i64 (R 4), .int .i64 (R 5), .int .i64 (R 6), .int .i64 (R 7)], .int .i64 st, .int .i64 who] w fun e w' => e = .returned (.bool (barB R st who)) ∧ Below w.heap.size w w' := by
 have HWF := Lib.hid hwf
 have HB0 := Lib.hid (gbelow_box w (.cells #[.int .i64 (R 0), .int .i64 (R 1), .int .i64 (R 2), .int .i64 (R 3), .int .i64 (R 4), .int .i64 (R 5), .int .i64 (R 6), .int .i64 (R 7)] 29))
 have hkey : keyOf Tryz.prog 3 (.int .i64 who) = some (.int .i64 who) := keyOf_int_mk Tryz.underlying3 hw
 clear hwf hw
 go_enter Tryz.func145, Tryz.ntmps145
 go_wp2_with fail
 refine (barredFrom_any R st _ HWF.out).mono ?_
 rintro e w1 ⟨b, n, rfl, ⟨D, hown, hD⟩, hb1⟩
 have HD := Lib.hid (hD who)
 have HB1 := Lib.hid (HB0.out.trans (hb1.mono HB0.out.size))
 clear hD hb1
 go_wp2_with (first
  | (at_lookup; refine wpList_lookup_own_ok_int _ rfl _ _ 224 rfl 3 3 .i64 intLaw Tryz.underlying224 Tryz.underlying3 (zeroInt _) _ _ _ rfl hown _ _ rfl hkey ?_; intro c0 hat hwc))
 go_ret
 exact ⟨gret_bool HD.out, HB1.out⟩
end Go.Proofs.YtkalfdjmklakdaaGreatDoor.Rn
namespace Go.Proofs.YtkalfdjmklakdaaGreatDoor.Rn
open Go.RowKit
def allN (f : Nat → Bool) : Nat → Bool
 | 0 => true
 | j + 1 => allN f j && f j
theorem allN_yes {f : Nat → Bool} {j : Nat} (h : allN f j = true) : allN f (j + 1) = f j := by simp [allN, h]
theorem allN_no {f : Nat → Bool} {m j : Nat} (hj : j < m) (he : f j = false) : allN f m = false := by
 induction m with
 | zero => omega
 | succ q ih =>
   by_cases e : j = q
   ·subst e; simp [allN, he]
   ·simp [allN, ih (by omega)]
theorem allN_at {f : Nat → Bool} {m j : Nat} (h : allN f m = true) (hj : j < m) : f j = true := by
 cases e : f j
 ·rw [allN_no hj e] at h; cases h
 ·rfl
theorem allN_more {f : Nat → Bool} {m k : Nat} (hm : m ≤ k) (h : ∀ j, m ≤ j → j < k → f j = true) : allN f k = allN f m := by
 induction k with
 | zero => obtain rfl : m = 0 := by omega
           rfl
 | succ q ih =>
   by_cases e : m = q + 1
   ·subst e; rfl
   ·rw [allN, ih (by omega) (fun j h1 h2 => h j h1 (by omega)), h q (by omega) (by omega), Bool.and_true]
def pB (R : Nat → Int) (s i : Nat) : Bool := if 0 < i ∧ i ≤ s then perB (R (1 + i)) else true
def zB (R : Nat → Int) (s i : Nat) : Bool := if 0 < i ∧ i ≤ s then true else R (1 + i) == 0
def rB (R : Nat → Int) (s i : Nat) : Bool := if 0 < i ∧ i ≤ s then !barB R i (R (1 + i)) else true
theorem pB_in {R : Nat → Int} {s i : Nat} (h0 : 0 < i) (h : i ≤ s) : pB R s i = perB (R (1 + i)) := if_pos ⟨h0, h⟩
theorem zB_in {R : Nat → Int} {s i : Nat} (h0 : 0 < i) (h : i ≤ s) : zB R s i = true := if_pos ⟨h0, h⟩
theorem rB_in {R : Nat → Int} {s i : Nat} (h0 : 0 < i) (h : i ≤ s) : rB R s i = !barB R i (R (1 + i)) := if_pos ⟨h0, h⟩
theorem pB_out {R : Nat → Int} {s i : Nat} (h : ¬ (0 < i ∧ i ≤ s)) : pB R s i = true := if_neg h
theorem zB_out {R : Nat → Int} {s i : Nat} (h : ¬ (0 < i ∧ i ≤ s)) : zB R s i = (R (1 + i) == 0) := if_neg h
theorem rB_out {R : Nat → Int} {s i : Nat} (h : ¬ (0 < i ∧ i ≤ s)) : rB R s i = true := if_neg h
def runS (R : Nat → Int) (s : Nat) : Int := if allN (pB R s) 7 = false then 3 else if allN (zB R s) 7 = false then 4 else if allN (rB R s) 7 = false then 9 else 0
def runE (R : Nat → Int) : Int := if R 0 < 0 ∨ 6 < R 0 then 7 else runS R (R 0).toNat
theorem runE_kind {R : Nat → Int} (h : R 0 < 0 ∨ 6 < R 0) : runE R = 7 := if_pos h
theorem runE_in {R : Nat → Int} {s : Nat} (h : R 0 = s) (hs : s ≤ 6) : runE R = runS R s := by unfold runE; rw [if_neg (by omega), h]; rfl
theorem runS_range {R : Nat → Int} {s : Nat} (h : allN (pB R s) 7 = false) : runS R s = 3 := if_pos h
theorem runS_state {R : Nat → Int} {s : Nat} (h : allN (pB R s) 7 = true) (h2 : allN (zB R s) 7 = false) : runS R s = 4 := by unfold runS; rw [h, h2]; rfl
theorem runS_right {R : Nat → Int} {s : Nat} (h : allN (pB R s) 7 = true) (h2 : allN (zB R s) 7 = true) (h3 : allN (rB R s) 7 = false) : runS R s = 9 := by unfold runS; rw [h, h2, h3]; rfl
theorem runS_ok {R : Nat → Int} {s : Nat} (h : allN (pB R s) 7 = true) (h2 : allN (zB R s) 7 = true) (h3 : allN (rB R s) 7 = true) : runS R s = 0 := by unfold runS; rw [h, h2, h3]; rfl
theorem runS_zero {R : Nat → Int} {s : Nat} (h : runS R s = 0) : allN (pB R s) 7 = true ∧ allN (zB R s) 7 = true ∧ allN (rB R s) 7 = true := by
 cases h1 : allN (pB R s) 7
 ·rw [runS_range h1] at h; omega
 ·cases h2 : allN (zB R s) 7
  ·rw [runS_state h1 h2] at h; omega
  ·cases h3 : allN (rB R s) 7
   ·rw [runS_right h1 h2 h3] at h; omega
   ·exact ⟨rfl, rfl, rfl⟩
theorem slice_who (w : World) (b s : Nat) (h : s ≤ 6) : (Instr.sliceAt 27 (.pointer (some ⟨b, 1, none⟩)) (some (.int .i64 1)) (some (.int .i64 ((s : Int) + 1))) none).run Tryz.prog w = .ok (.slice (some ⟨b, 2, none⟩) s 6) w := by
 have hl : Tryz.prog.arrayLen 27 = 7 := by kernel_rfl
 have ht : Tryz.prog.underlying 27 = some (.array (Tryz.prog.arrayLen 27) (Tryz.prog.elem 27)) := by kernel_rfl
 have hr := run_sliceAt_array_lh (P := Tryz.prog) w 27 ⟨b, 1, none⟩ ht .i64 .i64 1 ((s : Int) + 1) (by omega) (by omega) (by rw [hl]; omega)
 have hz : (sizeOf (Tryz.prog.elem 27)).run Tryz.prog w = .ok 1 w := by kernel_rfl
 rw [hr, hz, Result.andThen_ok, hl]
 have e1 : ((s : Int) + 1).toNat = s + 1 := by omega
 rw [e1]
 simp [slicedAt, Addr.add]
theorem index_who0 (w : World) (R : Nat → Int) : (Instr.index 27 (.agg #[.int .i64 (R 1), .int .i64 (R 2), .int .i64 (R 3), .int .i64 (R 4), .int .i64 (R 5), .int .i64 (R 6), .int .i64 (R 7)]) (.int .i64 ((0 : Nat) : Int))).run Tryz.prog w = .ok (.int .i64 (R (1 + 0))) w := by kernel_rfl
theorem index_who1 (w : World) (R : Nat → Int) : (Instr.index 27 (.agg #[.int .i64 (R 1), .int .i64 (R 2), .int .i64 (R 3), .int .i64 (R 4), .int .i64 (R 5), .int .i64 (R 6), .int .i64 (R 7)]) (.int .i64 ((1 : Nat) : Int))).run Tryz.prog w = .ok (.int .i64 (R (1 + 1))) w := by kernel_rfl
theorem index_who2 (w : World) (R : Nat → Int) : (Instr.index 27 (.agg #[.int .i64 (R 1), .int .i64 (R 2), .int .i64 (R 3), .int .i64 (R 4), .int .i64 (R 5), .int .i64 (R 6), .int .i64 (R 7)]) (.int .i64 ((2 : Nat) : Int))).run Tryz.prog w = .ok (.int .i64 (R (1 + 2))) w := by kernel_rfl
theorem index_who3 (w : World) (R : Nat → Int) : (Instr.index 27 (.agg #[.int .i64 (R 1), .int .i64 (R 2), .int .i64 (R 3), .int .i64 (R 4), .int .i64 (R 5), .int .i64 (R 6), .int .i64 (R 7)]) (.int .i64 ((3 : Nat) : Int))).run Tryz.prog w = .ok (.int .i64 (R (1 + 3))) w := by kernel_rfl
theorem index_who4 (w : World) (R : Nat → Int) : (Instr.index 27 (.agg #[.int .i64 (R 1), .int .i64 (R 2), .int .i64 (R 3), .int .i64 (R 4), .int .i64 (R 5), .int .i64 (R 6), .int .i64 (R 7)]) (.int .i64 ((4 : Nat) : Int))).run Tryz.prog w = .ok (.int .i64 (R (1 + 4))) w := by kernel_rfl
theorem index_who5 (w : World) (R : Nat → Int) : (Instr.index 27 (.agg #[.int .i64 (R 1), .int .i64 (R 2), .int .i64 (R 3), .int .i64 (R 4), .int .i64 (R 5), .int .i64 (R 6), .int .i64 (R 7)]) (.int .i64 ((5 : Nat) : Int))).run Tryz.prog w = .ok (.int .i64 (R (1 + 5))) w := by kernel_rfl
theorem index_who6 (w : World) (R : Nat → Int) : (Instr.index 27 (.agg #[.int .i64 (R 1), .int .i64 (R 2), .int .i64 (R 3), .int .i64 (R 4), .int .i64 (R 5), .int .i64 (R 6), .int .i64 (R 7)]) (.int .i64 ((6 : Nat) : Int))).run Tryz.prog w = .ok (.int .i64 (R (1 + 6))) w := by kernel_rfl
theorem index_who (w : World) (R : Nat → Int) {k : Nat} (h : k < 7) : (Instr.index 27 (.agg #[.int .i64 (R 1), .int .i64 (R 2), .int .i64 (R 3), .int .i64 (R 4), .int .i64 (R 5), .int .i64 (R 6), .int .i64 (R 7)]) (.int .i64 (k : Int))).run Tryz.prog w = .ok (.int .i64 (R (1 + k))) w := by
 match k, h with
 | 0, _ => exact index_who0 w R
 | 1, _ => exact index_who1 w R
 | 2, _ => exact index_who2 w R
 | 3, _ => exact index_who3 w R
 | 4, _ => exact index_who4 w R
 | 5, _ => exact index_who5 w R
 | 6, _ => exact index_who6 w R
set_option maxRecDepth 100000 in
set_option maxHeartbeats 2000000 in
theorem Check_any (R : Nat → Int) (w : World) (hwf : WfR R) :
 Calls Tryz.prog 82 #[.agg #[.int .i64 (R 0), .int .i64 (R 1), .int .i64 (R 2), .int .i64 (R 3), .int .i64 (R 4), .int .i64 (R 5), .int .i64 (R 6), .int .i64 (R 7)]] w fun e w' => e = .returned (.int .i64 (runE R)) ∧ Below w.heap.size w w' := by
 have HWF := Lib.hid hwf
 have HB := Lib.hid (gbelow_box w (.cells #[.int .i64 (R 0), .int .i64 (R 1), .int .i64 (R 2), .int .i64 (R 3), .int .i64 (R 4), .int .i64 (R 5), .int .i64 (R 6), .int .i64 (R 7)] 29))
 have HX := Lib.hid (RBox.made w R 29)
 clear hwf
 by_cases h0 : R 0 < 0
 ·have HE := Lib.hid (runE_kind (R := R) (.inl h0))
  go_enter Tryz.func82, Tryz.ntmps82
  go_wp2_with fail
  go_ret
  exact ⟨gret_int HE.out.symm, HB.out⟩
 ·have h0B : decide (R 0 < 0) = false := decide_eq_false h0
  by_cases h6 : 6 < R 0
  ·have HE := Lib.hid (runE_kind (R := R) (.inr h6))
   go_enter Tryz.func82, Tryz.ntmps82
   go_wp2_with fail
   go_ret
   exact ⟨gret_int HE.out.symm, HB.out⟩
  ·obtain ⟨s, hs⟩ : ∃ s : Nat, R 0 = (s : Int) := ⟨(R 0).toNat, by omega⟩
   have hs6 : s ≤ 6 := by omega
   have HE := Lib.hid (runE_in hs hs6)
   have HS := Lib.hid hs
   clear h0 h6 h0B
   have h6B : decide (6 < (s : Int)) = false := decide_eq_false (by omega)
   have h6' : ¬ (6 < (s : Int)) := by omega
   go_enter Tryz.func82, Tryz.ntmps82
   rw [hs]
   clear hs
   have hsl := slice_who (w.alloc (.cells #[.int .i64 (s : Int), .int .i64 (R 1), .int .i64 (R 2), .int .i64 (R 3), .int .i64 (R 4), .int .i64 (R 5), .int .i64 (R 6), .int .i64 (R 7)] 29)) w.heap.size s hs6
   have HB := HB
   have HX := HX
   rw [HS.out] at HB HX
   go_wp2_with fail
   clear hsl
   generalize (w.alloc (.cells #[.int .i64 (s : Int), .int .i64 (R 1), .int .i64 (R 2), .int .i64 (R 3), .int .i64 (R 4), .int .i64 (R 5), .int .i64 (R 6), .int .i64 (R 7)] 29)) = w0 at *
   go_loop [22] (fun i => ∃ k : Nat, k ≤ s ∧ i = .int .i64 k ∧ allN (pB R s) (k + 1) = true) (fun i => s - (intOf i).toNat)
   case atStart => exact ⟨0, Nat.zero_le _, rfl, by simp [allN, pB]⟩
   case round =>
    obtain ⟨k, hk, rfl, hall⟩ := hrel
    have HA := Lib.hid hall
    clear hall
    by_cases hlt : k < s
    ·have hlt' : (k : Int) < (s : Int) := by omega
     have x1 := HX.out.2 (2 + k) (by omega)
     have e1 : 1 + (k + 1) = 2 + k := by omega
     cases hp : perB (R (2 + k))
     ·have HF : Hid (runS R s = 3) := runS_range (allN_no (j := k + 1) (by omega) (by rw [pB_in (by omega) (by omega), e1]; exact hp))
      rw [HF.out] at HE
      clear e1
      go_wp2_with (go_at_call 73; refine (isPerson_any _ _).mono ?_; rintro e w' ⟨rfl, h'⟩; subst w'; rw [hp])
      go_ret
      exact ⟨gret_int HE.out.symm, HB.out⟩
     ·have HF : Hid (allN (pB R s) (k + 1 + 1) = true) := by unfold Hid; rw [allN_yes HA.out, pB_in (by omega) (by omega), e1]; exact hp
      clear e1
      go_wp2_with (go_at_call 73; refine (isPerson_any _ _).mono ?_; rintro e w' ⟨rfl, h'⟩; subst w'; rw [hp])
      go_round
      case rel => exact ⟨k + 1, by omega, by go_num, HF.out⟩
      case measure => simp [intOf]; omega
    ·obtain rfl : s = k := by omega
     have HP : Hid (allN (pB R s) 7 = true) := by
      unfold Hid
      rw [allN_more (m := s + 1) (by omega) (fun j h1 h2 => pB_out (by omega))]
      exact HA.out
     clear HA hk hlt
     obtain ⟨c0, c1, c2, c3, c4, c5, c6, c7⟩ := HX.out.cells
     go_wp2_with fail
     clear c1 c2 c3 c4 c5 c6 c7
     rw [HS.out] at c0
     go_loop [32] (fun i => ∃ k : Nat, k ≤ 7 ∧ i = .int .i64 k ∧ allN (zB R s) k = true) (fun i => 7 - (intOf i).toNat)
     case atStart => exact ⟨0, by omega, rfl, rfl⟩
     case round =>
      obtain ⟨k, hk, rfl, hall⟩ := hrel
      have HA := Lib.hid hall
      clear hall
      by_cases hlt : k < 7
      ·have hlt' : (k : Int) < 7 := by omega
       have hge' : (0 : Int) ≤ (k : Int) := by omega
       have hix := index_who w0 R hlt
       generalize hz : R (1 + k) = z at *
       by_cases h0 : z = 0
       ·have HZ : Hid (allN (zB R s) (k + 1) = true) := by
         unfold Hid
         rw [allN_yes HA.out]
         unfold zB
         split
         ·rfl
         ·rw [hz, h0]; rfl
        subst h0
        clear hz
        go_wp2_with fail
        go_round
        case rel => exact ⟨k + 1, by omega, by go_num, HZ.out⟩
        case measure => simp [intOf]; omega
       ·have h0B : (z != 0) = true := by simpa using h0
        have h0D : decide (z = 0) = false := decide_eq_false h0
        by_cases hk0 : k = 0
        ·have hkB : ((k : Int) == 0) = true := by simp; omega
         have hkD : decide ((k : Int) = 0) = true := decide_eq_true (by omega)
         have hkN : decide (k = 0) = true := decide_eq_true hk0
         have HF : Hid (runS R s = 4) := runS_state HP.out (allN_no (j := k) (by omega) (by rw [zB_out (by omega), hz]; simpa using h0))
         rw [HF.out] at HE
         clear hz hk0
         go_wp2_with fail
         go_ret
         exact ⟨gret_int HE.out.symm, HB.out⟩
        ·have hkB : ((k : Int) == 0) = false := by simp; omega
         have hkD : decide ((k : Int) = 0) = false := decide_eq_false (by omega)
         have hkN : decide (k = 0) = false := decide_eq_false hk0
         by_cases hks : s < k
         ·have hks' : (s : Int) < (k : Int) := by omega
          have HF : Hid (runS R s = 4) := runS_state HP.out (allN_no (j := k) (by omega) (by rw [zB_out (by omega), hz]; simpa using h0))
          rw [HF.out] at HE
          clear hz
          go_wp2_with fail
          go_ret
          exact ⟨gret_int HE.out.symm, HB.out⟩
         ·have hksB : decide (s < k) = false := decide_eq_false hks
          have hksD : decide ((s : Int) < (k : Int)) = false := decide_eq_false (by omega)
          have HZ : Hid (allN (zB R s) (k + 1) = true) := by
           unfold Hid
           rw [allN_yes HA.out, zB_in (by omega) (by omega)]
          clear hz
          go_wp2_with fail
          go_round
          case rel => exact ⟨k + 1, by omega, by go_num, HZ.out⟩
          case measure => simp [intOf]; omega
      ·obtain rfl : k = 7 := by omega
       have HZ := HA
       clear HA hlt hk
       go_wp2_with fail
       go_loopw [7] (fun i wr => ∃ k : Nat, k ≤ s ∧ i = .int .i64 ((k : Int) + 1) ∧ allN (rB R s) (k + 1) = true ∧ Below w0.heap.size w0 wr) (fun i _ => s + 2 - (intOf i).toNat)
       case atStart => exact ⟨0, by omega, rfl, by simp [allN, rB], Below.refl _ _⟩
       case round =>
        obtain ⟨k, hk, rfl, hall, hb⟩ := hrel
        have HA := Lib.hid hall
        have HBr := Lib.hid hb
        have HXr := Lib.hid (HX.out.below hb)
        clear hall hb
        by_cases hlt : k < s
        ·have hlt' : (k : Int) + 1 ≤ (s : Int) := by omega
         obtain ⟨c0, c1, c2, c3, c4, c5, c6, c7⟩ := HXr.out.cells
         have cx := HXr.out.2 (1 + (k + 1)) (by omega)
         have k0 := cell_regrown c0
         have k1 := cell_regrown c1
         have k2 := cell_regrown c2
         have k3 := cell_regrown c3
         have k4 := cell_regrown c4
         have k5 := cell_regrown c5
         have k6 := cell_regrown c6
         have k7 := cell_regrown c7
         have kx := cell_regrown cx
         have hge : (0 : Int) ≤ (k : Int) + 1 := by omega
         have hl7 : (k : Int) + 1 < 7 := by omega
         have htn : ((k : Int) + 1).toNat = k + 1 := by omega
         have HPK : Hid (perB (R (1 + (k + 1))) = true) := by
          have := allN_at HP.out (j := k + 1) (by omega)
          rw [pB_in (by omega) (by omega)] at this
          exact this
         have HWK : Hid ((Lit.int .i64 (R (1 + (k + 1)))).wf = true) := HWF.out _ (by omega)
         have HK := Lib.hid (fun w => isBarred_any R ((k : Int) + 1) (R (1 + (k + 1))) w HWF.out HWK.out)
         rw [HS.out] at k0 c0
         rw [HS.out] at HK
         cases hbar : barB R ((k : Int) + 1) (R (1 + (k + 1)))
         ·rw [hbar] at HK
          have HF : Hid (allN (rB R s) (k + 1 + 1) = true) := by
           unfold Hid
           rw [allN_yes HA.out, rB_in (by omega) (by omega)]
           show (!barB R (((k + 1 : Nat)) : Int) (R (1 + (k + 1)))) = true
           rw [show (((k + 1 : Nat)) : Int) = (k : Int) + 1 by omega, hbar]
           rfl
          clear hbar HPK HWK
          go_wp2_with fail
          refine wp_region_quiet_below (by kernel_rfl) (by kernel_rfl) ?_
          repeat (quiet_step (exact Calls.regrown_of (HK.out _)))
          refine wpQuiet_nil ?_
          intro _ hw'
          obtain ⟨⟨dq, osq⟩, hw''⟩ := hw'
          subst hw''
          go_wp2_with fail
          go_roundw
          case rel => exact ⟨k + 1, by omega, by go_num, HF.out, HBr.out.trans ((below_regrown wr dq osq).mono HBr.out.size)⟩
          case measure => simp [intOf]; omega
         ·rw [hbar] at HK
          have HF : Hid (runS R s = 9) := runS_right HP.out HZ.out (allN_no (j := k + 1) (by omega) (by
           rw [rB_in (by omega) (by omega)]
           show (!barB R (((k + 1 : Nat)) : Int) (R (1 + (k + 1)))) = false
           rw [show (((k + 1 : Nat)) : Int) = (k : Int) + 1 by omega, hbar]
           rfl))
          rw [HF.out] at HE
          clear hbar HPK HWK
          go_wp2_with fail
          refine wp_region_quiet_below (by kernel_rfl) (by kernel_rfl) ?_
          repeat (quiet_step (exact Calls.regrown_of (HK.out _)))
          refine wpQuiet_nil ?_
          intro _ hw'
          obtain ⟨⟨dq, osq⟩, hw''⟩ := hw'
          subst hw''
          go_wp2_with fail
          go_ret
          exact ⟨gret_int HE.out.symm, HB.out.trans ((HBr.out.trans ((below_regrown wr dq osq).mono HBr.out.size)).mono HB.out.size)⟩
        ·obtain rfl : s = k := by omega
         have hnl : ¬ ((s : Int) + 1 ≤ (s : Int)) := by omega
         have c0 := HXr.out.2 0 (by omega)
         rw [HS.out] at c0
         have HF : Hid (runS R s = 0) := runS_ok HP.out HZ.out (by rw [allN_more (m := s + 1) (by omega) (fun j h1 h2 => rB_out (by omega))]; exact HA.out)
         rw [HF.out] at HE
         go_wp2_with fail
         go_ret
         exact ⟨gret_int HE.out.symm, HB.out.trans (HBr.out.mono HB.out.size)⟩
end Go.Proofs.YtkalfdjmklakdaaGreatDoor.Rn
namespace Go.Proofs.YtkalfdjmklakdaaGreatDoor.Rn
open Go.RowKit
theorem BarW.made (w : World) (R : Nat → Int) (t : TypeId) : (w.alloc (.cells #[.int .i64 (R 1), .int .i64 (R 2), .int .i64 (R 3), .int .i64 (R 4), .int .i64 (R 5), .int .i64 (R 6), .int .i64 (R 7)] t)).cell? ⟨w.heap.size, 1, none⟩ = some (.int .i64 (R 2)) ∧ (w.alloc (.cells #[.int .i64 (R 1), .int .i64 (R 2), .int .i64 (R 3), .int .i64 (R 4), .int .i64 (R 5), .int .i64 (R 6), .int .i64 (R 7)] t)).cell? ⟨w.heap.size, 2, none⟩ = some (.int .i64 (R 3)) ∧ (w.alloc (.cells #[.int .i64 (R 1), .int .i64 (R 2), .int .i64 (R 3), .int .i64 (R 4), .int .i64 (R 5), .int .i64 (R 6), .int .i64 (R 7)] t)).cell? ⟨w.heap.size, 3, none⟩ = some (.int .i64 (R 4)) ∧ (w.alloc (.cells #[.int .i64 (R 1), .int .i64 (R 2), .int .i64 (R 3), .int .i64 (R 4), .int .i64 (R 5), .int .i64 (R 6), .int .i64 (R 7)] t)).cell? ⟨w.heap.size, 4, none⟩ = some (.int .i64 (R 5)) := by
 refine ⟨?_, ?_, ?_, ?_⟩ <;> rw [World.cell?_alloc_at (w := w) _ _ _ _ rfl] <;> rfl
set_option maxRecDepth 100000 in
set_option maxHeartbeats 1000000 in
theorem barred_ref (R : Nat → Int) (st who : Int) (w : World) :
 Calls Tryz.prog 107 #[.agg #[.int .i64 (R 1), .int .i64 (R 2), .int .i64 (R 3), .int .i64 (R 4), .int .i64 (R 5), .int .i64 (R 6), .int .i64 (R 7)], .int .i64 st, .int .i64 who] w fun e w' => e = .returned (.bool (barB R st who)) ∧ Below w.heap.size w w' := by
 by_cases h : st = 2
 ·subst h
  have HF : Hid (barB R 2 who = (who == R 2)) := by
   unfold Hid; rw [barB_2, Bool.eq_iff_iff]; simp; exact ⟨fun e => e.symm, fun e => e.symm⟩
  go_enter Tryz.func107, Tryz.ntmps107
  go_wp2_with fail
  go_ret
  exact ⟨gret_bool (by rw [HF.out]), gbelow_box _ _⟩
 ·have h2B : decide (st = 2) = false := decide_eq_false h
  have h2E : (st == 2) = false := by simpa using h
  have H2 := Lib.hid h
  clear h
  by_cases h : st = 3
  ·subst h
   by_cases h1 : R 2 = who
   ·have h1B : (who == R 2) = true := by simp [h1]
    have h1D : decide (who = R 2) = true := decide_eq_true h1.symm
    have HF : Hid (barB R 3 who = true) := by unfold Hid; rw [barB_3]; simp [h1]
    go_enter Tryz.func107, Tryz.ntmps107
    go_wp2_with fail
    go_ret
    exact ⟨gret_bool (by rw [HF.out]; try simp [h1]), gbelow_box _ _⟩
   ·have h1B : (who == R 2) = false := by simp; exact fun e => h1 e.symm
    have h1D : decide (who = R 2) = false := decide_eq_false (fun e => h1 e.symm)
    have HF : Hid (barB R 3 who = (who == R 3)) := by
     unfold Hid; rw [barB_3, Bool.eq_iff_iff]; simp [h1]; exact ⟨fun e => e.symm, fun e => e.symm⟩
    go_enter Tryz.func107, Tryz.ntmps107
    go_wp2_with fail
    go_ret
    exact ⟨gret_bool (by rw [HF.out]), gbelow_box _ _⟩
  ·have h3B : decide (st = 3) = false := decide_eq_false h
   have h3E : (st == 3) = false := by simpa using h
   have H3 := Lib.hid h
   clear h
   by_cases h : st = 5
   ·subst h
    by_cases h1 : R 4 = who
    ·have h1B : (who == R 4) = true := by simp [h1]
     have h1D : decide (who = R 4) = true := decide_eq_true h1.symm
     have HF : Hid (barB R 5 who = true) := by unfold Hid; rw [barB_5]; simp [h1]
     go_enter Tryz.func107, Tryz.ntmps107
     go_wp2_with fail
     go_ret
     exact ⟨gret_bool (by rw [HF.out]; try simp [h1]), gbelow_box _ _⟩
    ·have h1B : (who == R 4) = false := by simp; exact fun e => h1 e.symm
     have h1D : decide (who = R 4) = false := decide_eq_false (fun e => h1 e.symm)
     have HF : Hid (barB R 5 who = (who == R 5)) := by
      unfold Hid; rw [barB_5, Bool.eq_iff_iff]; simp [h1]; exact ⟨fun e => e.symm, fun e => e.symm⟩
     go_enter Tryz.func107, Tryz.ntmps107
     go_wp2_with fail
     go_ret
     exact ⟨gret_bool (by rw [HF.out]), gbelow_box _ _⟩
   ·have h5B : decide (st = 5) = false := decide_eq_false h
    have h5E : (st == 5) = false := by simpa using h
    have HF := Lib.hid (barB_other (R := R) (who := who) H2.out H3.out h)
    clear h
    go_enter Tryz.func107, Tryz.ntmps107
    go_wp2_with fail
    go_ret
    exact ⟨gret_bool HF.out.symm, gbelow_box _ _⟩
set_option maxRecDepth 100000 in
set_option maxHeartbeats 2000000 in
theorem checkRun_ref (R : Nat → Int) (w : World) :
 Calls Tryz.prog 44 #[.agg #[.int .i64 (R 0), .int .i64 (R 1), .int .i64 (R 2), .int .i64 (R 3), .int .i64 (R 4), .int .i64 (R 5), .int .i64 (R 6), .int .i64 (R 7)]] w fun e w' => e = .returned (.int .i64 (runE R)) ∧ Below w.heap.size w w' := by
 have HB := Lib.hid (gbelow_box w (.cells #[.int .i64 (R 0), .int .i64 (R 1), .int .i64 (R 2), .int .i64 (R 3), .int .i64 (R 4), .int .i64 (R 5), .int .i64 (R 6), .int .i64 (R 7)] 29))
 have HX := Lib.hid (RBox.made w R 29)
 by_cases h0 : R 0 < 0
 ·have HE := Lib.hid (runE_kind (R := R) (.inl h0))
  go_enter Tryz.func44, Tryz.ntmps44
  go_wp2_with fail
  go_ret
  exact ⟨gret_int HE.out.symm, HB.out⟩
 ·have h0B : decide (R 0 < 0) = false := decide_eq_false h0
  by_cases h6 : 6 < R 0
  ·have HE := Lib.hid (runE_kind (R := R) (.inr h6))
   go_enter Tryz.func44, Tryz.ntmps44
   go_wp2_with fail
   go_ret
   exact ⟨gret_int HE.out.symm, HB.out⟩
  ·obtain ⟨s, hs⟩ : ∃ s : Nat, R 0 = (s : Int) := ⟨(R 0).toNat, by omega⟩
   have hs6 : s ≤ 6 := by omega
   have HE := Lib.hid (runE_in hs hs6)
   have HS := Lib.hid hs
   clear h0 h6 h0B
   have h6B : decide (6 < (s : Int)) = false := decide_eq_false (by omega)
   have h6' : ¬ (6 < (s : Int)) := by omega
   go_enter Tryz.func44, Tryz.ntmps44
   rw [hs]
   clear hs
   have HB := HB
   have HX := HX
   rw [HS.out] at HB HX
   go_wp2_with fail
   generalize (w.alloc (.cells #[.int .i64 (s : Int), .int .i64 (R 1), .int .i64 (R 2), .int .i64 (R 3), .int .i64 (R 4), .int .i64 (R 5), .int .i64 (R 6), .int .i64 (R 7)] 29)) = w0 at *
   go_loopw [3, 4, 5] (fun sv rv i wr => ∃ k : Nat, k ≤ 7 ∧ i = .int .i64 k ∧ sv = .bool (!allN (zB R s) k) ∧ rv = .bool (!allN (rB R s) k) ∧ allN (pB R s) k = true ∧ Below w0.heap.size w0 wr) (fun _ _ i _ => 7 - (intOf i).toNat)
   case atStart => exact ⟨0, by omega, rfl, rfl, rfl, rfl, Below.refl _ _⟩
   case round =>
    obtain ⟨k, hk, rfl, rfl, rfl, hall, hb⟩ := hrel
    have HA := Lib.hid hall
    have HBr := Lib.hid hb
    have HXr := Lib.hid (HX.out.below hb)
    clear hall hb
    by_cases hlt : k < 7
    ·have hlt' : (k : Int) < 7 := by omega
     have hge' : (0 : Int) ≤ (k : Int) := by omega
     obtain ⟨c0, c1, c2, c3, c4, c5, c6, c7⟩ := HXr.out.cells
     rw [HS.out] at c0
     have cx := HXr.out.2 (1 + k) (by omega)
     by_cases hin : 0 < k ∧ k ≤ s
     ·obtain ⟨hk0, hks⟩ := hin
      have hk0' : (0 : Int) < (k : Int) := by omega
      have hks' : (k : Int) ≤ (s : Int) := by omega
      have HZ1 : Hid (allN (zB R s) (k + 1) = allN (zB R s) k) := by unfold Hid; rw [allN, zB_in hk0 hks, Bool.and_true]
      have HR1 : Hid (allN (rB R s) (k + 1) = (allN (rB R s) k && !barB R k (R (1 + k)))) := by unfold Hid; rw [allN, rB_in hk0 hks]
      cases hp : perB (R (1 + k))
      ·have HF : Hid (runS R s = 3) := runS_range (allN_no (j := k) (by omega) (by rw [pB_in hk0 hks]; exact hp))
       rw [HF.out] at HE
       go_wp2_with (go_at_call 39; refine (isPerson_ref _ _).mono ?_; rintro e w' ⟨rfl, h'⟩; subst w'; rw [hp])
       go_ret
       exact ⟨gret_int HE.out.symm, HB.out.trans (HBr.out.mono HB.out.size)⟩
      ·have HF : Hid (allN (pB R s) (k + 1) = true) := by unfold Hid; rw [allN_yes HA.out, pB_in hk0 hks]; exact hp
       generalize allN (zB R s) k = zv at *
       cases hr : allN (rB R s) k
       ·rw [hr] at HR1
        go_wp2_with (go_at_call 39; refine (isPerson_ref _ _).mono ?_; rintro e w' ⟨rfl, h'⟩; subst w'; rw [hp])
        go_quiet (fail)
        go_wp2_with fail
        go_roundw
        case rel => exact ⟨k + 1, by omega, by go_num, by rw [HZ1.out], by rw [HR1.out]; rfl, HF.out, gbelow_dN HBr.out _⟩
        case measure => simp [intOf]; omega
       ·rw [hr] at HR1
        have HK := Lib.hid (fun w => barred_ref R (k : Int) (R (1 + k)) w)
        generalize barB R (k : Int) (R (1 + k)) = bv at *
        have k0 := cell_regrown c0
        have k1 := cell_regrown c1
        have k2 := cell_regrown c2
        have k3 := cell_regrown c3
        have k4 := cell_regrown c4
        have k5 := cell_regrown c5
        have k6 := cell_regrown c6
        have k7 := cell_regrown c7
        have kx := cell_regrown cx
        go_wp2_with (go_at_call 39; refine (isPerson_ref _ _).mono ?_; rintro e w' ⟨rfl, h'⟩; subst w'; rw [hp])
        refine wp_region_quiet_below (by kernel_rfl) (by kernel_rfl) ?_
        repeat (go_big_quiet_step (exact Calls.regrown_of (HK.out _)))
        refine wpQuiet_nil ?_
        intro _ hw'
        obtain ⟨⟨dq, osq⟩, hw''⟩ := hw'
        subst hw''
        go_wp2_with fail
        go_roundw
        case rel => exact ⟨k + 1, by omega, by go_num, by rw [HZ1.out], by rw [HR1.out]; simp, HF.out, HBr.out.trans ((below_regrown wr dq osq).mono HBr.out.size)⟩
        case measure => simp [intOf]; omega
     ·have HF : Hid (allN (pB R s) (k + 1) = true) := by unfold Hid; rw [allN_yes HA.out, pB_out hin]
      have HR1 : Hid (allN (rB R s) (k + 1) = allN (rB R s) k) := by unfold Hid; rw [allN, rB_out hin, Bool.and_true]
      have HZ1 : Hid (allN (zB R s) (k + 1) = (allN (zB R s) k && R (1 + k) == 0)) := by unfold Hid; rw [allN, zB_out hin]
      generalize allN (rB R s) k = rv at *
      generalize allN (zB R s) k = zv at *
      generalize R (1 + k) = z at *
      clear c1 c2 c3 c4 c5 c6 c7
      by_cases hz : z = 0
      ·subst hz
       by_cases hk0 : 0 < k
       ·have hks : s < k := by omega
        have hk0' : (0 : Int) < (k : Int) := by omega
        have hksB : decide ((k : Int) ≤ (s : Int)) = false := decide_eq_false (by omega)
        have hksN : decide (k ≤ s) = false := decide_eq_false (by omega)
        go_wp2_with fail
        go_roundw
        case rel => exact ⟨k + 1, by omega, by go_num, by rw [HZ1.out]; simp, by rw [HR1.out], HF.out, HBr.out⟩
        case measure => simp [intOf]; omega
       ·have hk0B : decide ((0 : Int) < (k : Int)) = false := decide_eq_false (by omega)
        have hk0N : decide (0 < k) = false := decide_eq_false (by omega)
        go_wp2_with fail
        go_roundw
        case rel => exact ⟨k + 1, by omega, by go_num, by rw [HZ1.out]; simp, by rw [HR1.out], HF.out, HBr.out⟩
        case measure => simp [intOf]; omega
      ·have hzB : (z != 0) = true := by simpa using hz
       have hzE : (z == 0) = false := by simpa using hz
       have hzD : decide (z = 0) = false := decide_eq_false hz
       by_cases hk0 : 0 < k
       ·have hks : s < k := by omega
        have hk0' : (0 : Int) < (k : Int) := by omega
        have hksB : decide ((k : Int) ≤ (s : Int)) = false := decide_eq_false (by omega)
        have hksN : decide (k ≤ s) = false := decide_eq_false (by omega)
        go_wp2_with fail
        go_roundw
        case rel => exact ⟨k + 1, by omega, by go_num, by rw [HZ1.out]; simp [hzE], by rw [HR1.out], HF.out, HBr.out⟩
        case measure => simp [intOf]; omega
       ·have hk0B : decide ((0 : Int) < (k : Int)) = false := decide_eq_false (by omega)
        have hk0N : decide (0 < k) = false := decide_eq_false (by omega)
        go_wp2_with fail
        go_roundw
        case rel => exact ⟨k + 1, by omega, by go_num, by rw [HZ1.out]; simp [hzE], by rw [HR1.out], HF.out, HBr.out⟩
        case measure => simp [intOf]; omega
    ·obtain rfl : k = 7 := by omega
     have HBE := Lib.hid (HB.out.trans (HBr.out.mono HB.out.size))
     cases hz : allN (zB R s) 7
     ·have HF := Lib.hid (runS_state HA.out hz)
      rw [HF.out] at HE
      go_wp2_with fail
      go_ret
      exact ⟨gret_int HE.out.symm, HBE.out⟩
     ·cases hr : allN (rB R s) 7
      ·have HF := Lib.hid (runS_right HA.out hz hr)
       rw [HF.out] at HE
       go_wp2_with fail
       go_ret
       exact ⟨gret_int HE.out.symm, HBE.out⟩
      ·have HF := Lib.hid (runS_ok HA.out hz hr)
       rw [HF.out] at HE
       go_wp2_with fail
       go_ret
       exact ⟨gret_int HE.out.symm, HBE.out⟩
end Go.Proofs.YtkalfdjmklakdaaGreatDoor.Rn
