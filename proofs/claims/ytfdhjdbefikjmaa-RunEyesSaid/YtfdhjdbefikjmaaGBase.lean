/-
  Promise O1: what is wrong with a run, and who may not bring it to a state, as pure functions over its eight numbers (R 0 the state, R (1 + i) who brought it to i); how they stand in memory; the walks of isPerson, apartFrom, barredFrom, isBarred.
-/
import Derived.Test.YtfdhjdbefikjmaaMGrow
import Derived.Lib.Hide
import Derived.Laws.Unary
import Derived.ChangeSame
import Derived.Maps.OwnSet
namespace Go.Proofs.Ytfdhjdbefikjmaa
open Go.RowKit Go.Maps Go.WideMaps

theorem gret_bool {a b : Bool} (h : a = b) : Ending.returned (.bool a) = .returned (.bool b) := by rw [h]
theorem gret_int {k : IntKind} {a b : Int} (h : a = b) : Ending.returned (.int k a) = .returned (.int k b) := by rw [h]
theorem gbelow_dN {B : Nat} {a w : World} (h : Below B a w) (k : Nat) : Below B a (w.drewN k) := h.trans ⟨rfl, rfl, rfl, Nat.le_refl _, fun _ _ => rfl⟩
theorem gbelow_box (w : World) (o : Obj) : Below w.heap.size w (w.alloc o) := (Below.refl w.heap.size w).alloc (Nat.le_refl _) o
/-- A slice of ints: its address, its numbers. -/
def Came (w : World) (a : Option Addr) (l : List Int) : Prop := l.length = 0 ∨ ∃ b off, a = some ⟨b, off, none⟩ ∧ At w b off l
theorem Came.below {w w' : World} {a : Option Addr} {l : List Int} (h : Came w a l) (hb : Below w.heap.size w w') : Came w' a l := by
  rcases h with h | ⟨b, off, rfl, h⟩
  · exact .inl h
  · exact .inr ⟨b, off, rfl, h.below hb h.1⟩
theorem Came.open {w : World} {a : Option Addr} {l : List Int} (h : Came w a l) {n : Nat} (hn : l.length = n) (h0 : 0 < n) : ∃ b off, a = some ⟨b, off, none⟩ ∧ ∀ w', Below w.heap.size w w' → ∀ k, k < n → w'.cell? ⟨b, off + k, none⟩ = some (.int .i64 (nth l k)) := by
  rcases h with h | ⟨b, off, rfl, h⟩
  · omega
  · exact ⟨b, off, rfl, fun w' hb k hk => (h.below hb h.1).2 k (by omega)⟩
theorem gat_lit (w : World) (l : List Int) (t : TypeId) : At (w.alloc (.cells (l.map (Value.int .i64)).toArray t)) w.heap.size 0 l := by
  refine ⟨by simp, fun j hj => ?_⟩
  rw [Nat.zero_add, World.cell?_alloc_at (w := w) _ _ _ _ rfl]
  simp [nth, List.getD_eq_getElem?_getD, hj]
/-- Is it a person's number? -/
def perB (x : Int) : Bool := decide (1 ≤ x ∧ x ≤ 999)
theorem perB_iff {x : Int} : perB x = true ↔ 1 ≤ x ∧ x ≤ 999 := by unfold perB; exact decide_eq_true_iff
theorem perB_no {x : Int} : perB x = false ↔ x < 1 ∨ 999 < x := by unfold perB; rw [decide_eq_false_iff_not]; omega
/-- Who brought a run to one of these states may not bring it to this one. -/
def apL (st : Int) : List Int := if st = 2 then [1] else if st = 3 then [1, 2] else if st = 5 then [3, 4] else []
theorem apL_other {st : Int} (h2 : st ≠ 2) (h3 : st ≠ 3) (h5 : st ≠ 5) : apL st = [] := by unfold apL; rw [if_neg h2, if_neg h3, if_neg h5]
theorem apL_bd (st : Int) : (apL st).length ≤ 2 ∧ ∀ j, j < (apL st).length → ∃ e : Nat, nth (apL st) j = (e : Int) ∧ e ≤ 4 := by
  by_cases h2 : st = 2
  · subst h2
    exact ⟨by decide, fun j hj => ⟨1, by match j, hj with | 0, _ => rfl, by omega⟩⟩
  · by_cases h3 : st = 3
    · subst h3
      refine ⟨by decide, fun j hj => ?_⟩
      match j, hj with
      | 0, _ => exact ⟨1, rfl, by omega⟩
      | 1, _ => exact ⟨2, rfl, by omega⟩
    · by_cases h5 : st = 5
      · subst h5
        refine ⟨by decide, fun j hj => ?_⟩
        match j, hj with
        | 0, _ => exact ⟨3, rfl, by omega⟩
        | 1, _ => exact ⟨4, rfl, by omega⟩
      · rw [apL_other h2 h3 h5]
        exact ⟨by decide, fun j hj => absurd hj (by simp)⟩
/-- Is one of the first k of these who brought the run to one of a list of states? -/
def metN (R : Nat → Int) (L : List Int) (who : Int) : Nat → Bool
  | 0 => false
  | k + 1 => metN R L who k || R (1 + (nth L k).toNat) == who
def barB (R : Nat → Int) (st who : Int) : Bool := metN R (apL st) who (apL st).length
theorem barB_other {R : Nat → Int} {st who : Int} (h2 : st ≠ 2) (h3 : st ≠ 3) (h5 : st ≠ 5) : barB R st who = false := by unfold barB; rw [apL_other h2 h3 h5]; rfl
theorem barB_2 {R : Nat → Int} {who : Int} : barB R 2 who = (R 2 == who) := rfl
theorem barB_3 {R : Nat → Int} {who : Int} : barB R 3 who = (R 2 == who || R 3 == who) := rfl
theorem barB_5 {R : Nat → Int} {who : Int} : barB R 5 who = (R 4 == who || R 5 == who) := rfl
/-- Its eight numbers fit. -/
def WfR (R : Nat → Int) : Prop := ∀ j, j < 8 → (Lit.int .i64 (R j)).wf = true
theorem gcells8 (w : World) (R : Nat → Int) (t : TypeId) {j : Nat} (hj : j < 8) : (w.alloc (.cells #[.int .i64 (R 0), .int .i64 (R 1), .int .i64 (R 2), .int .i64 (R 3), .int .i64 (R 4), .int .i64 (R 5), .int .i64 (R 6), .int .i64 (R 7)] t)).cell? ⟨w.heap.size, j, none⟩ = some (.int .i64 (R j)) := by
  rw [World.cell?_alloc_at (w := w) _ _ _ _ rfl]
  match j, hj with
  | 0, _ => rfl
  | 1, _ => rfl
  | 2, _ => rfl
  | 3, _ => rfl
  | 4, _ => rfl
  | 5, _ => rfl
  | 6, _ => rfl
  | 7, _ => rfl
/-- A run in its box. -/
def RBox (w : World) (b : Nat) (R : Nat → Int) : Prop := b < w.heap.size ∧ ∀ j, j < 8 → w.cell? ⟨b, j, none⟩ = some (.int .i64 (R j))
theorem RBox.made (w : World) (R : Nat → Int) (t : TypeId) : RBox (w.alloc (.cells #[.int .i64 (R 0), .int .i64 (R 1), .int .i64 (R 2), .int .i64 (R 3), .int .i64 (R 4), .int .i64 (R 5), .int .i64 (R 6), .int .i64 (R 7)] t)) w.heap.size R := ⟨by simp, fun _ hj => gcells8 w R t hj⟩
theorem RBox.below {w w' : World} {b : Nat} {R : Nat → Int} (h : RBox w b R) (hb : Below w.heap.size w w') : RBox w' b R := ⟨Nat.lt_of_lt_of_le h.1 hb.size, fun j hj => (hb.cell (p := ⟨b, j, none⟩) h.1).trans (h.2 j hj)⟩
theorem RBox.belowB {B : Nat} {w w' : World} {b : Nat} {R : Nat → Int} (h : RBox w b R) (hb : Below B w w') (hB : b < B) : RBox w' b R := ⟨Nat.lt_of_lt_of_le h.1 hb.size, fun j hj => (hb.cell (p := ⟨b, j, none⟩) hB).trans (h.2 j hj)⟩
theorem RBox.cells {w : World} {b : Nat} {R : Nat → Int} (h : RBox w b R) : w.cell? ⟨b, 0, none⟩ = some (.int .i64 (R 0)) ∧ w.cell? ⟨b, 1, none⟩ = some (.int .i64 (R 1)) ∧ w.cell? ⟨b, 2, none⟩ = some (.int .i64 (R 2)) ∧ w.cell? ⟨b, 3, none⟩ = some (.int .i64 (R 3)) ∧ w.cell? ⟨b, 4, none⟩ = some (.int .i64 (R 4)) ∧ w.cell? ⟨b, 5, none⟩ = some (.int .i64 (R 5)) ∧ w.cell? ⟨b, 6, none⟩ = some (.int .i64 (R 6)) ∧ w.cell? ⟨b, 7, none⟩ = some (.int .i64 (R 7)) :=
  ⟨h.2 0 (by omega), h.2 1 (by omega), h.2 2 (by omega), h.2 3 (by omega), h.2 4 (by omega), h.2 5 (by omega), h.2 6 (by omega), h.2 7 (by omega)⟩
theorem isPerson_any (n : Int) (w : World) : Calls Try.prog 20 #[.int .i64 n] w fun e w' => e = .returned (.bool (perB n)) ∧ w' = w := by
  by_cases h1 : 1 ≤ n
  · have h1B : decide (1 ≤ n) = true := decide_eq_true h1
    by_cases h2 : n ≤ 999
    · have H : Hid (perB n = true) := perB_iff.2 ⟨h1, h2⟩
      go_enter Try.func20, Try.ntmps20
      go_wp2
      go_ret
      exact ⟨gret_bool (by rw [H.out]; try simp <;> omega), rfl⟩
    · have H : Hid (perB n = false) := perB_no.2 (.inr (by omega))
      have h2B : decide (n ≤ 999) = false := decide_eq_false h2
      go_enter Try.func20, Try.ntmps20
      go_wp2
      go_ret
      exact ⟨gret_bool (by rw [H.out]; try simp <;> omega), rfl⟩
  · have H : Hid (perB n = false) := perB_no.2 (.inl (by omega))
    have h1B : decide (1 ≤ n) = false := decide_eq_false h1
    go_enter Try.func20, Try.ntmps20
    go_wp2
    go_ret
    exact ⟨gret_bool (by rw [H.out]; try simp <;> omega), rfl⟩
theorem isPerson_ref (n : Int) (w : World) : Calls Try.prog 15 #[.int .i64 n] w fun e w' => e = .returned (.bool (perB n)) ∧ w' = w := by
  by_cases h1 : 1 ≤ n
  · have h1B : decide (1 ≤ n) = true := decide_eq_true h1
    by_cases h2 : n ≤ 999
    · have H : Hid (perB n = true) := perB_iff.2 ⟨h1, h2⟩
      go_enter Try.func15, Try.ntmps15
      go_wp2
      go_ret
      exact ⟨gret_bool (by rw [H.out]; try simp <;> omega), rfl⟩
    · have H : Hid (perB n = false) := perB_no.2 (.inr (by omega))
      have h2B : decide (n ≤ 999) = false := decide_eq_false h2
      go_enter Try.func15, Try.ntmps15
      go_wp2
      go_ret
      exact ⟨gret_bool (by rw [H.out]; try simp <;> omega), rfl⟩
  · have H : Hid (perB n = false) := perB_no.2 (.inl (by omega))
    have h1B : decide (1 ≤ n) = false := decide_eq_false h1
    go_enter Try.func15, Try.ntmps15
    go_wp2
    go_ret
    exact ⟨gret_bool (by rw [H.out]; try simp <;> omega), rfl⟩
set_option maxHeartbeats 1000000 in
theorem apartFrom_any (st : Int) (w : World) : Calls Try.prog 26 #[.int .i64 st] w fun e w' => ∃ a c, e = .returned (.slice a (apL st).length c) ∧ ((apL st).length = 0 ∨ ∃ g, a = some ⟨g, 0, none⟩ ∧ w.heap.size ≤ g ∧ At w' g 0 (apL st)) ∧ Below w.heap.size w w' := by
  by_cases h : st = 2
  · subst h
    go_enter Try.func26, Try.ntmps26
    go_wp2_with fail
    go_ret
    exact ⟨_, _, rfl, .inr ⟨w.heap.size, rfl, Nat.le_refl _, gat_lit w [1] _⟩, gbelow_box _ _⟩
  · have h2B : decide (st = 2) = false := decide_eq_false h
    have h2E : (st == 2) = false := by simpa using h
    have H2 := Lib.hid h
    clear h
    by_cases h : st = 3
    · subst h
      go_enter Try.func26, Try.ntmps26
      go_wp2_with fail
      go_ret
      exact ⟨_, _, rfl, .inr ⟨w.heap.size, rfl, Nat.le_refl _, gat_lit w [1, 2] _⟩, gbelow_box _ _⟩
    · have h3B : decide (st = 3) = false := decide_eq_false h
      have h3E : (st == 3) = false := by simpa using h
      have H3 := Lib.hid h
      clear h
      by_cases h : st = 5
      · subst h
        go_enter Try.func26, Try.ntmps26
        go_wp2_with fail
        go_ret
        exact ⟨_, _, rfl, .inr ⟨w.heap.size, rfl, Nat.le_refl _, gat_lit w [3, 4] _⟩, gbelow_box _ _⟩
      · have h5B : decide (st = 5) = false := decide_eq_false h
        have h5E : (st == 5) = false := by simpa using h
        rw [apL_other H2.out H3.out h]
        clear h
        go_enter Try.func26, Try.ntmps26
        go_wp2_with fail
        go_ret
        exact ⟨_, _, rfl, .inl (by simp), Below.refl _ _⟩
theorem intLaw : Keyed Try.prog 3 := int_keyed Try.underlying3
theorem zeroInt (w : World) : (zeroValue 3).run Try.prog w = .ok (.int .i64 0) w := by kernel_rfl
theorem make_map0 (w : World) : (Instr.makeMap 51 none).run Try.prog w = .ok (.map (some w.heap.size)) (w.alloc (.map #[] 0)) := by
  simp [Instr.makeMap]
/-- The map in block b has the keys that g tells. -/
def KeyIs (w : World) (b n : Nat) (g : Int → Bool) : Prop := ∃ D : DataW Unit, w.ownsMap Try.prog 3 (plainElem (H := Unit) Try.prog 3) b n D ∧ ∀ x, Maps.has D (.int .i64 x) = g x
theorem key_put {D : DataW Unit} {g : Int → Bool} {z : Int} (e : DataW Unit) (hm : IsMap D) (h : ∀ x, Maps.has D (.int .i64 x) = g x) (x : Int) :
    Maps.has (D.put (.int .i64 z) e) (.int .i64 x) = (g x || z == x) := by
  by_cases q : x = z
  · subst q
    rw [has_put_same hm (show WideAt.IsKeyLit (.int .i64 x) from trivial)]
    simp
  · rw [has_put_other (by intro q'; cases q'; exact q rfl), h]
    have : (z == x) = false := by simpa using fun e => q e.symm
    rw [this, Bool.or_false]
theorem gtrans {w w1 w2 : World} {row : Option Nat} (h : w.grownBy w1 row) (k : w1.grownBy w2 row) : w.grownBy w2 row :=
  ⟨k.os.trans h.os, k.tape.trans h.tape, k.output.trans h.output, Nat.le_trans h.size k.size, fun j hj hr => (k.block j (Nat.lt_of_lt_of_le hj h.size) hr).trans (h.block j hj hr)⟩
def KeysRet (w w' : World) (e : Ending) (g : Int → Bool) : Prop := ∃ b n, e = .returned (.map (some b)) ∧ KeyIs w' b n g ∧ Below w.heap.size w w'
set_option maxRecDepth 100000 in
set_option maxHeartbeats 1000000 in
theorem barredFrom_any (R : Nat → Int) (st : Int) (w : World) (hwf : WfR R) :
    Calls Try.prog 24 #[.agg #[.int .i64 (R 0), .int .i64 (R 1), .int .i64 (R 2), .int .i64 (R 3), .int .i64 (R 4), .int .i64 (R 5), .int .i64 (R 6), .int .i64 (R 7)], .int .i64 st] w fun e w' => KeysRet w w' e (fun x => barB R st x) := by
  obtain ⟨hn2, hel⟩ := apL_bd st
  have HEL := Lib.hid hel
  have HWF := Lib.hid hwf
  have HX := Lib.hid (RBox.made w R 24)
  have HB0 := Lib.hid (gbelow_box w (.cells #[.int .i64 (R 0), .int .i64 (R 1), .int .i64 (R 2), .int .i64 (R 3), .int .i64 (R 4), .int .i64 (R 5), .int .i64 (R 6), .int .i64 (R 7)] 24))
  have HB1 := Lib.hid (HB0.out.alloc HB0.out.size (.map #[] 0))
  have HA := Lib.hid (fun w => apartFrom_any st w)
  have HR : Hid (∀ x, barB R st x = metN R (apL st) x (apL st).length) := fun x => rfl
  have hmm := make_map0
  clear hel hwf
  generalize apL st = L at *
  generalize hn : L.length = n at *
  have HNL := Lib.hid hn
  clear hn
  go_enter Try.func24, Try.ntmps24
  go_wp2_with fail
  refine (HA.out _).mono ?_
  rintro e w1 ⟨a, c, rfl, hc, hb1⟩
  have HO := Lib.hid hc
  have HB2 := Lib.hid (HB1.out.trans (hb1.mono HB1.out.size))
  have HX1 := Lib.hid ((HX.out.below (gbelow_box _ (.map #[] 0))).below hb1)
  have HM1 : Hid (KeyIs w1 (w.heap.size + 1) 0 (fun x => metN R L x 0)) := by
    refine ⟨.map [], ?_, fun x => by simp [Maps.has, metN]⟩
    have h0 := World.ownsMap_made (w.alloc (.cells #[.int .i64 (R 0), .int .i64 (R 1), .int .i64 (R 2), .int .i64 (R 3), .int .i64 (R 4), .int .i64 (R 5), .int .i64 (R 6), .int .i64 (R 7)] 24)) Try.prog 3 (plainElem (H := Unit) Try.prog 3)
    obtain ⟨es, clock, hb, h3⟩ := h0
    refine ⟨es, clock, ?_, h3⟩
    have := hb1.block (w.heap.size + 1) (by simp)
    rw [this]
    simpa using hb
  have HZ1 : Hid (w.heap.size + 1 < w1.heap.size) := by
    have := hb1.size
    simp at this
    unfold Hid
    omega
  clear hc hb1 HX HB0 HB1 HA hmm
  go_wp2_with fail
  go_loopw [12] (fun i wr => ∃ k : Nat, k ≤ n ∧ i = .int .i64 k ∧ KeyIs wr (w.heap.size + 1) k (fun x => metN R L x k) ∧ w1.grownBy wr (some (w.heap.size + 1))) (fun i _ => n - (intOf i).toNat)
  case atStart => exact ⟨0, Nat.zero_le _, rfl, HM1.out, ⟨rfl, rfl, rfl, Nat.le_refl _, fun _ _ _ => rfl⟩⟩
  case round =>
    obtain ⟨k, hk, rfl, ⟨D, hown, hD⟩, hg⟩ := hrel
    have HD := Lib.hid hD
    have HG := Lib.hid hg
    clear hD hg
    by_cases hlt : k < n
    · have hlt' : (k : Int) < (n : Int) := by omega
      rcases HO.out with h0 | ⟨g, rfl, hgs, hat⟩
      · have := HNL.out
        omega
      · have hgs' : w.heap.size + 1 < g := by simp at hgs; omega
        obtain ⟨e', he', he4⟩ := HEL.out k hlt
        have x0 : wr.cell? ⟨g, k, none⟩ = some (.int .i64 (e' : Int)) := by
          rw [World.cell?_of_block (w := w1) (HG.out.block g hat.1 (by intro q; cases q; omega))]
          have := hat.2 k (by rw [HNL.out]; exact hlt)
          rw [Nat.zero_add, he'] at this
          exact this
        have x1 : wr.cell? ⟨w.heap.size, 1 + e', none⟩ = some (.int .i64 (R (1 + e'))) := by
          rw [World.cell?_of_block (w := w1) (HG.out.block w.heap.size HX1.out.1 (by intro q; simp at q))]
          exact HX1.out.2 (1 + e') (by omega)
        have h7 : (e' : Int) < 7 := by omega
        have hkey : keyOf Try.prog 3 (.int .i64 (R (1 + e'))) = some (.int .i64 (R (1 + e'))) := keyOf_int_mk Try.underlying3 (HWF.out _ (by omega))
        have HE : Hid (nth L k = (e' : Int)) := he'
        clear hat hgs hgs' he'
        go_wp2_with (first
          | (at_mapUpdate; refine wpList_mapUpdate_own _ rfl _ _ _ 51 rfl 3 3 intLaw Try.underlying51 (plainElem (H := Unit) Try.prog 3) (w.heap.size + 1) k _ rfl hown (by unfold maxLen; omega) _ _ _ rfl rfl hkey (.lit (.int .i64 (e' : Int))) [] (plainElem_int Try.underlying3 (WalkArith.wf_i64 (by omega))) ?_; intro w2 hown2 hgrow2))
        go_roundw
        case rel =>
          refine ⟨k + 1, by omega, by go_num, ⟨_, hown2, fun x => ?_⟩, gtrans HG.out hgrow2⟩
          rw [key_put _ hown.isMap HD.out]
          show _ = (metN R L x k || R (1 + (nth L k).toNat) == x)
          rw [HE.out]
          rfl
        case measure => simp [intOf]; omega
    · obtain rfl : k = n := by omega
      go_wp2_with fail
      go_ret
      refine ⟨_, _, rfl, ⟨D, hown, fun x => ?_⟩, HB2.out.grown HG.out HB2.out.size (fun j hj => by cases hj; omega)⟩
      exact (HD.out x).trans (HR.out x).symm
set_option maxRecDepth 100000 in
set_option maxHeartbeats 1000000 in
theorem isBarred_any (R : Nat → Int) (st who : Int) (w : World) (hwf : WfR R) (hw : (Lit.int .i64 who).wf = true) :
    Calls Try.prog 21 #[.agg #[.int .i64 (R 0), .int .i64 (R 1), .int .i64 (R 2), .int .i64 (R 3), .int .i64 (R 4), .int .i64 (R 5), .int .i64 (R 6), .int .i64 (R 7)], .int .i64 st, .int .i64 who] w fun e w' => e = .returned (.bool (barB R st who)) ∧ Below w.heap.size w w' := by
  have HWF := Lib.hid hwf
  have HB0 := Lib.hid (gbelow_box w (.cells #[.int .i64 (R 0), .int .i64 (R 1), .int .i64 (R 2), .int .i64 (R 3), .int .i64 (R 4), .int .i64 (R 5), .int .i64 (R 6), .int .i64 (R 7)] 24))
  have hkey : keyOf Try.prog 3 (.int .i64 who) = some (.int .i64 who) := keyOf_int_mk Try.underlying3 hw
  clear hwf hw
  go_enter Try.func21, Try.ntmps21
  go_wp2_with fail
  refine (barredFrom_any R st _ HWF.out).mono ?_
  rintro e w1 ⟨b, n, rfl, ⟨D, hown, hD⟩, hb1⟩
  have HD := Lib.hid (hD who)
  have HB1 := Lib.hid (HB0.out.trans (hb1.mono HB0.out.size))
  clear hD hb1
  go_wp2_with (first
    | (at_lookup; refine wpList_lookup_own_ok_int _ rfl _ _ 51 rfl 3 3 .i64 intLaw Try.underlying51 Try.underlying3 (zeroInt _) _ _ _ rfl hown _ _ rfl hkey ?_; intro c0 hat hwc))
  go_ret
  exact ⟨gret_bool HD.out, HB1.out⟩
end Go.Proofs.Ytfdhjdbefikjmaa
