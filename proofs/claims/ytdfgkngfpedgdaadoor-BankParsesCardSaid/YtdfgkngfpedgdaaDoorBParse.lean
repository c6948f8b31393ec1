/-
  Promise P3: what Parse comes to: the walks of compare, of parse's deferred closure, of parse and of Parse.
-/
import Derived.Test.YtdfgkngfpedgdaaDoorBFile
import Derived.Defers
import Derived.Recover
import Derived.Laws.Pointers
namespace Go.Proofs.YtdfgkngfpedgdaaDoor
open Go.RowKit

theorem pnth_lns (s : ByteArray) : ∀ {n j : Nat}, j < n → pnth (lnsOf s n) j = pyOf s (25 + 45 * j)
  | 0, _, h => by omega
  | n + 1, j, h => by
    have hl := lnsOf_len s n
    unfold pnth
    rw [lnsOf, List.getD_eq_getElem?_getD]
    by_cases e : j < n
    · rw [List.getElem?_append_left (by omega), ← List.getD_eq_getElem?_getD]
      exact pnth_lns s e
    · obtain rfl : j = n := by omega
      rw [List.getElem?_append_right (by omega), hl]
      simp
theorem nmT_size (s : ByteArray) (k : Nat) : (nmT s k).size ≤ 12 := by
  have h1 : (nmT s k).size = (Lib.trimRightB (s.extract k (k + 12)).data.toList 46).length := by unfold nmT; generalize Lib.trimRightB _ _ = L; rfl
  have h2 : (Lib.trimRightB (s.extract k (k + 12)).data.toList 46).length ≤ (s.extract k (k + 12)).data.toList.length := by
    unfold Lib.trimRightB
    rw [List.length_reverse]
    have := (List.dropWhile_sublist (l := (s.extract k (k + 12)).data.toList.reverse) (· == (46 : UInt8))).length_le
    simpa using this
  have h3 : (s.extract k (k + 12)).data.toList.length = (s.extract k (k + 12)).size := (size_toList _).symm
  rw [ByteArray.size_extract] at h3
  omega
theorem wf_of {x : Int} (h : 0 ≤ x ∧ x < 10000000000000) : (Lit.int .i64 x).wf = true := by
  exact WalkArith.wf_i64 (by omega)
theorem fit_line {s : ByteArray} {k : Nat} (h : ∀ j, j < 45 → lineQ s k j = true) (hk : k + 45 ≤ s.size) : FitP (pyOf s k) := by
  have d1 := numT_bd (s := s) (k := k + 13) (n := 13) (by omega) (fun j hj => (lineQ_dig s k 13 j (by omega)).symm.trans (h _ (by omega)))
  have d2 := numT_bd (s := s) (k := k + 26) (n := 6) (by omega) (fun j hj => (lineQ_dig s k 26 j (by omega)).symm.trans (h _ (by omega)))
  have e1 : (10 : Int) ^ 13 = 10000000000000 := by decide
  have e2 : (10 : Int) ^ 6 = 1000000 := by decide
  refine ⟨⟨?_, ?_⟩, wf_of ?_, wf_of ?_⟩
  · show (s.extract (k + 1) (k + 1 + 12)).size ≤ _
    rw [ext_size (by omega)]
    omega
  · show (nmT s (k + 32)).size ≤ _
    have := nmT_size s (k + 32)
    omega
  · show 0 ≤ numT (s.extract (k + 13) (k + 13 + 13)) ∧ numT (s.extract (k + 13) (k + 13 + 13)) < _
    omega
  · show 0 ≤ numT (s.extract (k + 26) (k + 26 + 6)) ∧ numT (s.extract (k + 26) (k + 26 + 6)) < _
    omega
/-- A text of a file's form. -/
def Form (s : ByteArray) (c : Nat) : Prop := numT (s.extract 6 (6 + 3)) = (c : Int) ∧ c ≤ 999 ∧ (∀ j, j < 25 + 45 * c + 13 → fileQ s c j = true) ∧ s.size = 25 + 45 * c + 12
theorem Form.line {s : ByteArray} {c : Nat} (h : Form s c) {i : Nat} (hi : i < c) : (∀ j, j < 45 → lineQ s (25 + 45 * i) j = true) ∧ 25 + 45 * i + 45 ≤ s.size :=
  ⟨fun j hj => (fileQ_line s c i j hi hj).symm.trans (h.2.2.1 _ (by omega)), by have := h.2.2.2; omega⟩
theorem Form.fit {s : ByteArray} {c : Nat} (h : Form s c) : ∀ j, j < c → FitP (pnth (lnsOf s c) j) := fun j hj => by
  rw [pnth_lns s hj]
  exact fit_line (h.line hj).1 (h.line hj).2
/-- What is wrong with a text of a file's form. -/
def cmpE (s : ByteArray) (day : Int) (l : List Py) (n : Nat) : Int := if 300 < n then 3 else if prE day l n = 0 then (if fileT day l n = s then 0 else 4) else prE day l n
theorem cmp_many {s : ByteArray} {day : Int} {l : List Py} {n : Nat} (h : 300 < n) : cmpE s day l n = 3 := if_pos h
theorem cmp_pr {s : ByteArray} {day : Int} {l : List Py} {n : Nat} (h : ¬ 300 < n) (h2 : prE day l n ≠ 0) : cmpE s day l n = prE day l n := by unfold cmpE; rw [if_neg h, if_neg h2]
theorem cmp_ne {s : ByteArray} {day : Int} {l : List Py} {n : Nat} (h : ¬ 300 < n) (h2 : prE day l n = 0) (h3 : fileT day l n ≠ s) : cmpE s day l n = 4 := by unfold cmpE; rw [if_neg h, if_pos h2, if_neg h3]
theorem cmp_ok {s : ByteArray} {day : Int} {l : List Py} {n : Nat} (h : ¬ 300 < n) (h2 : prE day l n = 0) (h3 : fileT day l n = s) : cmpE s day l n = 0 := by unfold cmpE; rw [if_neg h, if_pos h2, if_pos h3]
set_option maxRecDepth 100000 in
set_option maxHeartbeats 1000000 in
theorem compare_any (s : ByteArray) (day : Int) (a : Option Addr) (n cap : Nat) (l : List Py) (w : World) (ht : Tab w) (hc : CameP w a l) (hf : ∀ j, j < n → FitP (pnth l j)) (hn : l.length = n) (hm : n ≤ 999) :
    Calls Tryd.prog 59 #[.string s, .int .i64 day, .slice a n cap] w fun e w' => Below w.heap.size w w' ∧ ((cmpE s day l n = 0 ∧ e = .returned (.tuple #[])) ∨ (cmpE s day l n ≠ 0 ∧ e = .panicked (gone (cmpE s day l n) 0))) := by
  have HPR := Lib.hid (Print_any day a n cap l w ht hc hf hn (by omega))
  clear ht hc hf hn
  by_cases h3 : 300 < n
  · have h3' : (300 : Int) < (n : Int) := by omega
    have HE := Lib.hid (cmp_many (s := s) (day := day) (l := l) h3)
    generalize cmpE s day l n = ce at *
    go_enter Tryd.func59, Tryd.ntmps59
    go_wp2_with fail
    refine (giveUp_any _ _ _).mono ?_
    rintro e w4 ⟨rfl, rfl⟩
    go_wp2_with fail
    exact ⟨rfl, Below.refl _ _, .inr ⟨by rw [HE.out]; decide, by rw [HE.out]⟩⟩
  · have h3' : decide ((300 : Int) < (n : Int)) = false := decide_eq_false (by omega)
    have h3n : decide (300 < n) = false := decide_eq_false (by omega)
    by_cases hp : prE day l n = 0
    · have HT : Hid (prT day l n = fileT day l n) := by unfold Hid prT; rw [if_pos hp]
      rw [hp, HT.out] at HPR
      by_cases he : fileT day l n = s
      · have HE := Lib.hid (cmp_ok h3 hp he)
        rw [he] at HPR
        generalize cmpE s day l n = ce at *
        clear hp HT he
        go_enter Tryd.func59, Tryd.ntmps59
        go_wp2_with fail
        refine HPR.out.mono ?_
        rintro e w1 ⟨rfl, hb⟩
        have HB := Lib.hid hb
        clear hb
        go_wp2_with fail
        go_end0
        exact ⟨HB.out, .inl ⟨HE.out, rfl⟩⟩
      · have HE := Lib.hid (cmp_ne h3 hp he)
        generalize cmpE s day l n = ce at *
        generalize fileT day l n = FT at *
        have heB : (FT.toList == s.toList) = false := by
          rw [Bool.eq_false_iff]
          intro e
          rw [beq_iff_eq, ByteArray.toList_eq, ByteArray.toList_eq] at e
          exact he (ba_ext e)
        clear hp HT
        go_enter Tryd.func59, Tryd.ntmps59
        go_wp2_with fail
        refine HPR.out.mono ?_
        rintro e w1 ⟨rfl, hb⟩
        have HB := Lib.hid hb
        clear hb
        go_wp2_with fail
        refine (giveUp_any _ _ _).mono ?_
        rintro e w4 ⟨rfl, rfl⟩
        go_wp2_with fail
        exact ⟨rfl, HB.out, .inr ⟨by rw [HE.out]; decide, by rw [HE.out]⟩⟩
    · have HE := Lib.hid (cmp_pr (s := s) h3 hp)
      generalize cmpE s day l n = ce at *
      generalize prE day l n = pe at *
      generalize prT day l n = pt at *
      have hpB : decide (pe = 0) = false := decide_eq_false hp
      go_enter Tryd.func59, Tryd.ntmps59
      go_wp2_with fail
      refine HPR.out.mono ?_
      rintro e w1 ⟨rfl, hb⟩
      have HB := Lib.hid hb
      clear hb
      go_wp2_with fail
      refine (giveUp_any _ _ _).mono ?_
      rintro e w4 ⟨rfl, rfl⟩
      go_wp2_with fail
      exact ⟨rfl, HB.out, .inr ⟨by rw [HE.out]; exact hp, by rw [HE.out]⟩⟩
theorem catch_idle (p q r : Addr) (w : World) :
    CallsD Tryd.prog 57 #[.pointer (some p), .pointer (some q), .pointer (some r)] .returning w fun e u' w' => e = .returned (.tuple #[]) ∧ u' = .returning ∧ w' = w := by
  refine callsD_of_wpS Tryd.func57 rfl fun c₀ cs hu => ?_
  apply wpS_seq
  apply wpS_region
  simp [wpOpsS, go_sem, recoverD, hu, Tryd.ntmps57, Exit.thenS]
  apply wpS_seq
  apply wpS_region
  simp [wpOpsS, go_sem, Exit.thenS, Array.replicate]
  refine wpS_cond (t := false) (by simp [Act.eval]) ?_
  simp only [Bool.false_eq_true, if_false]
  refine wpS_of_wp (wp_skip ?_)
  cases c₀
  simp_all [bodyPostS, results, Tryd.results57]
theorem assert_wrong (v : Value) (w : World) : (Instr.typeAssert (.iface 80 v) 20 80 false).run Tryd.prog w = .ok v w := by kernel_rfl
/-- A block of cells. -/
def OB (w : World) (g : Nat) (vs : Array Value) (T : TypeId) : Prop := w.heap[g]? = some (.cells vs T (0, 0))
theorem OB.lt {w : World} {g : Nat} {vs : Array Value} {T : TypeId} (h : OB w g vs T) : g < w.heap.size := (Array.getElem?_eq_some_iff.1 h).1
theorem OB.made (w : World) (vs : Array Value) (T : TypeId) : OB (w.alloc (.cells vs T)) w.heap.size vs T := (MapKept.heap_alloc w _).1
theorem OB.grown {w w' : World} {g : Nat} {vs : Array Value} {T : TypeId} {row : Option Nat} (h : OB w g vs T) (hg : w.grownBy w' row) (hb : some g ≠ row) : OB w' g vs T := by
  unfold OB
  rw [hg.block g h.lt hb]
  exact h
theorem OB.below {w w' : World} {g : Nat} {vs : Array Value} {T : TypeId} (h : OB w g vs T) (hb : Below w.heap.size w w') : OB w' g vs T := by
  unfold OB
  rw [hb.block g h.lt]
  exact h
theorem OB.alloc {w : World} {g : Nat} {vs : Array Value} {T : TypeId} (h : OB w g vs T) (o : Obj) : OB (w.alloc o) g vs T := h.grown (World.grownBy_alloc w o none) (by simp)
theorem OB.other {w : World} {g g' : Nat} {vs : Array Value} {T : TypeId} (h : OB w g vs T) (hg : g ≠ g') (i : Nat) (v : Value) : OB (w.setCell ⟨g', i, none⟩ v) g vs T := h.grown (grown_set w g' i v) (fun e => hg (by injection e))
theorem OB.set {w : World} {g : Nat} {vs : Array Value} {T : TypeId} (h : OB w g vs T) (i : Nat) (v : Value) : OB (w.setCell ⟨g, i, none⟩ v) g (vs.setIfInBounds i v) T := by
  unfold OB at *
  simp [World.setCell, Array.getElem?_modify, h]
theorem OB.drew {w : World} {g : Nat} {vs : Array Value} {T : TypeId} (h : OB w g vs T) : OB w.drew g vs T := h
theorem OB.one {w : World} {g : Nat} {x : Value} {T : TypeId} (h : OB w g #[x] T) : w.cell? ⟨g, 0, none⟩ = some x ∧ w.frozen? ⟨g, 0, none⟩ = false := by
  unfold OB at h
  refine ⟨?_, ?_⟩ <;> simp [World.cell?, World.frozen?, h]
theorem OB.two {w : World} {g : Nat} {x y : Value} {T : TypeId} (h : OB w g #[x, y] T) : (w.cell? ⟨g, 0, none⟩ = some x ∧ w.frozen? ⟨g, 0, none⟩ = false) ∧ w.cell? ⟨g, 1, none⟩ = some y ∧ w.frozen? ⟨g, 1, none⟩ = false := by
  unfold OB at h
  refine ⟨⟨?_, ?_⟩, ?_, ?_⟩ <;> simp [World.cell?, World.frozen?, h]
/-- The cells of the results. -/
def Res (w : World) (p : Nat) (x y f a : Value) : Prop := OB w p #[x] 3 ∧ OB w (p + 1) #[y] 31 ∧ OB w (p + 2) #[f, a] 38
/-- The world behind what parse lays into them. -/
def laid (w : World) (p : Nat) (x y f a : Value) : World := (((w.setCell ⟨p, 0, none⟩ x).setCell ⟨p + 1, 0, none⟩ y).setCell ⟨p + 2, 0, none⟩ f).setCell ⟨p + 2, 1, none⟩ a
theorem Res.laid {w : World} {p : Nat} {x y f a : Value} (h : Res w p x y f a) (x' y' f' a' : Value) : Res (laid w p x' y' f' a') p x' y' f' a' := by
  obtain ⟨h1, h2, h3⟩ := h
  unfold Go.Proofs.YtdfgkngfpedgdaaDoor.laid
  exact ⟨(((h1.set 0 x').other (by omega) 0 y').other (by omega) 0 f').other (by omega) 1 a', (((h2.other (by omega) 0 x').set 0 y').other (by omega) 0 f').other (by omega) 1 a', (((h3.other (by omega) 0 x').other (by omega) 0 y').set 0 f').set 1 a'⟩
theorem below_laid {w0 w : World} {B p : Nat} (h : Below B w0 w) (hp : B ≤ p) (x y f a : Value) : Below B w0 (laid w p x y f a) :=
  (((h.setCell (p := ⟨p, 0, none⟩) hp _).setCell (p := ⟨p + 1, 0, none⟩) (by show B ≤ p + 1; omega) _).setCell (p := ⟨p + 2, 0, none⟩) (by show B ≤ p + 2; omega) _).setCell (p := ⟨p + 2, 1, none⟩) (by show B ≤ p + 2; omega) _
set_option maxRecDepth 100000 in
set_option maxHeartbeats 1000000 in
theorem catch_gone (p : Nat) (e a : Int) (w : World) {x y f b : Value} (h : Res w p x y f b) :
    CallsD Tryd.prog 57 #[.pointer (some ⟨p, 0, none⟩), .pointer (some ⟨p + 1, 0, none⟩), .pointer (some ⟨p + 2, 0, none⟩)] (.panicking (gone e a)) w fun x u' w' => x = .returned (.tuple #[]) ∧ u' = .panicking [{ v := .iface 80 (.agg #[.int .i64 e, .int .i64 a]), recovered := true }] ∧ w' = (laid w p (.int .i64 0) (.slice none 0 0) (.int .i64 e) (.int .i64 a)).drew := by
  obtain ⟨h1, h2, h3⟩ := h
  obtain ⟨p0, z0⟩ := h1.one
  obtain ⟨p1, z1⟩ := h2.one
  obtain ⟨⟨p2, z2⟩, p3, z3⟩ := h3.two
  clear h1 h2 h3
  refine callsD_of_wpS Tryd.func57 rfl fun c₀ cs hu => ?_
  apply wpS_seq
  apply wpS_region
  simp [wpOpsS, go_sem, recoverD, hu, gone, Tryd.ntmps57, Exit.thenS]
  apply wpS_seq
  apply wpS_region
  simp [wpOpsS, go_sem, Exit.thenS, Array.replicate]
  refine wpS_cond (t := true) (by simp [Act.eval]) ?_
  simp only [if_true]
  refine wpS_of_wp ?_
  have has := assert_wrong (.agg #[.int .i64 e, .int .i64 a])
  go_region
  simp [bodyPostS, results, Tryd.results57, laid]
end Go.Proofs.YtdfgkngfpedgdaaDoor
