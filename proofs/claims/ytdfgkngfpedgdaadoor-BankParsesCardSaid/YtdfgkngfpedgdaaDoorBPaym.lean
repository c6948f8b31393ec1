/-
  Promise P3: a payment's line as a form of bytes; the walk of payment.
-/
import Derived.Test.YtdfgkngfpedgdaaDoorBRead
namespace Go.Proofs.YtdfgkngfpedgdaaDoor
open Go.RowKit

/-- It stops at o: the first one of n that does not fit. -/
def Stops (Q : Nat → Bool) (n o : Nat) : Prop := o < n ∧ (∀ j, j < o → Q j = true) ∧ Q o = false
theorem more {F Q : Nat → Bool} {a n : Nat} (h : ∀ j, j < a → F j = true) (h2 : ∀ j, j < n → Q j = true) (hQ : ∀ j, j < n → F (a + j) = Q j) : ∀ j, j < a + n → F j = true := by
  intro j hj
  by_cases e : j < a
  · exact h j e
  · have := hQ (j - a) (by omega)
    rw [show a + (j - a) = j by omega] at this
    rw [this]
    exact h2 _ (by omega)
theorem stop {F Q : Nat → Bool} {a n N o : Nat} (h : ∀ j, j < a → F j = true) (ho : o < n) (h2 : ∀ j, j < o → Q j = true) (h3 : Q o = false) (hN : a + n ≤ N) (hQ : ∀ j, j < n → F (a + j) = Q j) : Stops F N (a + o) :=
  ⟨by omega, more h h2 (fun j hj => hQ j (by omega)), by rw [hQ o ho]; exact h3⟩
theorem pan_at {x y : Int} (h : x = y) : Ending.panicked (gone 1 x) = .panicked (gone 1 y) := by rw [h]
/-- Does the j-th byte of a line that begins at k fit? -/
def lineQ (s : ByteArray) (k j : Nat) : Bool := if j = 0 then eqB 80 (bt s (k + j)) else if j < 32 then digB (bt s (k + j)) else if j < 44 then nmF (prv s (k + 32) (j - 32)) (bt s (k + j)) else eqB 10 (bt s (k + j))
theorem lineQ_0 (s : ByteArray) (k : Nat) : lineQ s k 0 = eqB 80 (bt s k) := rfl
theorem lineQ_dig (s : ByteArray) (k a j : Nat) (h : 1 ≤ a + j ∧ a + j < 32) : lineQ s k (a + j) = digB (bt s (k + a + j)) := by
  unfold lineQ
  rw [if_neg (by omega), if_pos h.2, Nat.add_assoc]
theorem lineQ_nam (s : ByteArray) (k j : Nat) (h : j < 12) : lineQ s k (32 + j) = nmF (prv s (k + 32) j) (bt s (k + 32 + j)) := by
  unfold lineQ
  rw [if_neg (by omega), if_neg (by omega), if_pos (by omega), Nat.add_assoc, show 32 + j - 32 = j by omega]
theorem lineQ_44 (s : ByteArray) (k : Nat) : lineQ s k 44 = eqB 10 (bt s (k + 44)) := rfl
def numT (t : ByteArray) : Int := numN t t.size
/-- The payment of a line. -/
def pyOf (s : ByteArray) (k : Nat) : Py := ⟨s.extract (k + 1) (k + 1 + 12), nmT s (k + 32), numT (s.extract (k + 13) (k + 13 + 13)), numT (s.extract (k + 26) (k + 26 + 6))⟩
theorem ext_size {s : ByteArray} {k n : Nat} (h : k + n ≤ s.size) : (s.extract k (k + n)).size = n := by rw [ByteArray.size_extract]; omega
theorem ext_dig {s : ByteArray} {k n : Nat} (h : k + n ≤ s.size) (hd : ∀ j, j < n → digB (bt s (k + j)) = true) : allT digB (s.extract k (k + n)) = true := by
  rw [allT_iff, ext_size h]
  intro j hj
  rw [bt_extract s k (k + n) j h (by omega)]
  exact hd j hj
theorem num_any {s : ByteArray} {k n : Nat} (h : k + n ≤ s.size) (hn : n ≤ 15) (hd : ∀ j, j < n → digB (bt s (k + j)) = true) (w : World) :
    Calls Tryd.prog 31 #[.string (s.extract k (k + n))] w fun e w' => e = .returned (.int .i64 (numT (s.extract k (k + n)))) ∧ Below w.heap.size w w' :=
  number_any _ w (ext_dig h hd) (by rw [ext_size h]; exact hn)
/-- A box that holds a payment. -/
def PB (w : World) (g : Nat) (x y z u : Value) : Prop := w.heap[g]? = some (.cells #[x, y, z, u] 46 (0, 0))
theorem PB.made (w : World) (x y z u : Value) : PB (w.alloc (.cells #[x, y, z, u] 46)) w.heap.size x y z u := (MapKept.heap_alloc w _).1
theorem PB.lt {w : World} {g : Nat} {x y z u : Value} (h : PB w g x y z u) : g < w.heap.size := (Array.getElem?_eq_some_iff.1 h).1
theorem PB.cells {w : World} {g : Nat} {x y z u : Value} (h : PB w g x y z u) : (w.cell? ⟨g, 0, none⟩ = some x ∧ w.cell? ⟨g, 1, none⟩ = some y ∧ w.cell? ⟨g, 2, none⟩ = some z ∧ w.cell? ⟨g, 3, none⟩ = some u) ∧ w.frozen? ⟨g, 0, none⟩ = false ∧ w.frozen? ⟨g, 1, none⟩ = false ∧ w.frozen? ⟨g, 2, none⟩ = false ∧ w.frozen? ⟨g, 3, none⟩ = false := by
  unfold PB at h
  refine ⟨⟨?_, ?_, ?_, ?_⟩, ?_, ?_, ?_, ?_⟩ <;> simp [World.cell?, World.frozen?, h]
theorem PB.kept {w w' : World} {g b : Nat} {x y z u : Value} (h : PB w g x y z u) (hg : w.grownBy w' (some b)) (hb : g ≠ b) : PB w' g x y z u := by
  unfold PB
  rw [hg.block g h.lt (fun e => hb (by injection e))]
  exact h
theorem PB.below {w w' : World} {g : Nat} {x y z u : Value} (h : PB w g x y z u) (hb : Below w.heap.size w w') : PB w' g x y z u := by
  unfold PB
  rw [hb.block g h.lt]
  exact h
theorem PB.set {w : World} {g : Nat} {x y z u : Value} (h : PB w g x y z u) (i : Nat) (v : Value) : (w.setCell ⟨g, i, none⟩ v).heap[g]? = some (.cells (#[x, y, z, u].setIfInBounds i v) 46 (0, 0)) := by
  unfold PB at h
  simp [World.setCell, Array.getElem?_modify, h]
theorem PB.set0 {w : World} {g : Nat} {x y z u : Value} (h : PB w g x y z u) (v : Value) : PB (w.setCell ⟨g, 0, none⟩ v) g v y z u := h.set 0 v
theorem PB.set1 {w : World} {g : Nat} {x y z u : Value} (h : PB w g x y z u) (v : Value) : PB (w.setCell ⟨g, 1, none⟩ v) g x v z u := h.set 1 v
theorem PB.set2 {w : World} {g : Nat} {x y z u : Value} (h : PB w g x y z u) (v : Value) : PB (w.setCell ⟨g, 2, none⟩ v) g x y v u := h.set 2 v
theorem PB.set3 {w : World} {g : Nat} {x y z u : Value} (h : PB w g x y z u) (v : Value) : PB (w.setCell ⟨g, 3, none⟩ v) g x y z v := h.set 3 v
theorem PB.other {w : World} {g g' : Nat} {x y z u : Value} (h : PB w g x y z u) (hg : g ≠ g') (i : Nat) (v : Value) : PB (w.setCell ⟨g', i, none⟩ v) g x y z u := h.kept (grown_set w g' i v) hg
theorem Rd.other {w : World} {b g : Nat} {s : ByteArray} {k : Nat} (h : Rd w b s k) (hg : b ≠ g) (i : Nat) (v : Value) : Rd (w.setCell ⟨g, i, none⟩ v) b s k :=
  ⟨(World.cell?_setCell_other _ _ _ _ (fun e => by injection e; omega)).trans h.1, (World.cell?_setCell_other _ _ _ _ (fun e => by injection e; omega)).trans h.2.1, by rw [World.frozen?_setCell]; exact h.2.2⟩
theorem Rd.alloc {w : World} {b : Nat} {s : ByteArray} {k : Nat} (h : Rd w b s k) (o : Obj) : Rd (w.alloc o) b s k := h.below ((Below.refl w.heap.size w).alloc (Nat.le_refl _) o) h.lt
/-- Behind w nothing but block b is other. -/
theorem grown_new {w w' : World} {b g : Nat} (h : w.grownBy w' (some b)) (hg : w.heap.size ≤ g) (i : Nat) (v : Value) : w.grownBy (w'.setCell ⟨g, i, none⟩ v) (some b) := h.andThen (grown_set w' g i v) (fun j hj => .inl (by cases hj; exact hg))
theorem grown_below {w w' w'' : World} {row : Option Nat} (h : w.grownBy w' row) (hb : Below w'.heap.size w' w'') : w.grownBy w'' row := Lib.grownBy_below h hb
set_option maxRecDepth 100000 in
set_option maxHeartbeats 4000000 in
theorem payment_any (b : Nat) (s : ByteArray) (k : Nat) (w : World) (hr : Rd w b s k) (hk : k ≤ s.size) (hk2 : k ≤ 90000) (hs : s.size ≤ 9223372036854775807) :
    Calls Tryd.prog 70 #[.pointer (some ⟨b, 0, none⟩)] w fun e w' => w.grownBy w' (some b) ∧ ((e = .returned (.agg #[.string (pyOf s k).acc, .string (pyOf s k).nam, .int .i64 (pyOf s k).mon, .int .i64 (pyOf s k).ref]) ∧ (∀ j, j < 45 → lineQ s k j = true) ∧ Rd w' b s (k + 45) ∧ k + 45 ≤ s.size) ∨ ∃ o, e = .panicked (gone 1 ((k + o : Nat) : Int)) ∧ Stops (lineQ s k) 45 o) := by
  have hbw := hr.lt
  have HR0 := Lib.hid (hr.alloc (.cells #[.string ⟨#[]⟩, .string ⟨#[]⟩, .int .i64 0, .int .i64 0] 46))
  have HG0 := Lib.hid (World.grownBy_alloc w (.cells #[.string ⟨#[]⟩, .string ⟨#[]⟩, .int .i64 0, .int .i64 0] 46) (some b))
  have HP0 := Lib.hid (PB.made w (.string ⟨#[]⟩) (.string ⟨#[]⟩) (.int .i64 0) (.int .i64 0))
  clear hr
  go_enter Tryd.func70, Tryd.ntmps70
  go_wp2_with fail
  refine (sign_any b s k 80 _ (by omega) HR0.out hk (by omega) hs).mono ?_
  rintro e w1 ⟨hg, ⟨rfl, h1, h2, h3⟩ | ⟨rfl, h1⟩⟩
  case' inr =>
    have HG := Lib.hid (HG0.out.trans hg)
    have H := Lib.hid h1
    clear hg h1
    go_wp2_with fail
    exact ⟨rfl, HG.out, .inr ⟨0, rfl, by omega, fun j hj => by omega, H.out⟩⟩
  have HG1 := Lib.hid (HG0.out.trans hg)
  have HP1 := Lib.hid (HP0.out.kept hg (by omega))
  have HR1 := Lib.hid h2
  have HQ1 : Hid (∀ j, j < 1 → lineQ s k j = true) := fun j hj => by obtain rfl : j = 0 := by omega
                                                                     exact h1
  clear hg h1 h2 HG0 HP0 HR0
  go_wp2_with fail
  refine (digits_any b s (k + 1) 12 _ HR1.out h3 (by omega) (by omega) hs).mono ?_
  rintro e w2 ⟨hg, ⟨rfl, h1, h2, h4⟩ | ⟨o, ho, rfl, h1, h2⟩⟩
  case' inr =>
    have HG := Lib.hid (HG1.out.trans hg)
    have H := Lib.hid (stop HQ1.out ho h1 h2 (show 1 + 12 ≤ 45 by omega) (fun j hj => lineQ_dig s k 1 j (by omega)))
    clear hg h1 h2
    go_wp2_with fail
    exact ⟨rfl, HG.out, .inr ⟨1 + o, pan_at (by omega), H.out⟩⟩
  have HG2 := Lib.hid ((HG1.out.trans hg).trans (World.grownBy_alloc w2 (.cells #[.string (s.extract (k + 1) (k + 1 + 12)), .string ⟨#[]⟩, .int .i64 0, .int .i64 0] 46) (some b)))
  have hsz2 : w.heap.size < w2.heap.size := Nat.lt_of_lt_of_le HP1.out.lt hg.size
  have HP2 := Lib.hid ((HP1.out.kept hg (by omega)).below ((Below.refl w2.heap.size w2).alloc (Nat.le_refl _) (.cells #[.string (s.extract (k + 1) (k + 1 + 12)), .string ⟨#[]⟩, .int .i64 0, .int .i64 0] 46)))
  have HX2 := Lib.hid (PB.made w2 (.string (s.extract (k + 1) (k + 1 + 12))) (.string ⟨#[]⟩) (.int .i64 0) (.int .i64 0))
  have HR2 := Lib.hid (h2.alloc (.cells #[.string (s.extract (k + 1) (k + 1 + 12)), .string ⟨#[]⟩, .int .i64 0, .int .i64 0] 46))
  have HQ2 := Lib.hid (more HQ1.out h1 (fun j hj => lineQ_dig s k 1 j (by omega)))
  clear hg h1 h2 HG1 HP1 HR1 HQ1
  have HPY : Hid ((pyOf s k).acc = s.extract (k + 1) (k + 1 + 12) ∧ (pyOf s k).nam = nmT s (k + 32) ∧ (pyOf s k).mon = numT (s.extract (k + 13) (k + 13 + 13)) ∧ (pyOf s k).ref = numT (s.extract (k + 26) (k + 26 + 6))) := ⟨rfl, rfl, rfl, rfl⟩
  generalize hac : s.extract (k + 1) (k + 1 + 12) = ac at *
  go_wp2_with fail
  refine (digits_any b s (k + 13) 13 _ HR2.out h4 (by omega) (by omega) hs).mono ?_
  rintro e w3 ⟨hg, ⟨rfl, h1, h2, h5⟩ | ⟨o, ho, rfl, h1, h2⟩⟩
  case' inr =>
    have HG := Lib.hid (HG2.out.trans hg)
    have H := Lib.hid (stop HQ2.out ho h1 h2 (show 1 + 12 + 13 ≤ 45 by omega) (fun j hj => lineQ_dig s k 13 j (by omega)))
    clear hg h1 h2
    go_wp2_with fail
    exact ⟨rfl, HG.out, .inr ⟨13 + o, pan_at (by omega), H.out⟩⟩
  have HG3 := Lib.hid (HG2.out.trans hg)
  have hgb : w2.heap.size ≠ b := by omega
  have HP3 := Lib.hid (HP2.out.kept hg (by omega))
  have HX3 := Lib.hid (HX2.out.kept hg hgb)
  have HR3 := Lib.hid h2
  have HQ3 := Lib.hid (more HQ2.out h1 (fun j hj => lineQ_dig s k 13 j (by omega)))
  have HNM := Lib.hid (fun w => num_any h5 (by omega) h1 w)
  clear hg h1 h2 HG2 HP2 HR2 HX2 HQ2
  go_wp2_with fail
  refine (HNM.out _).mono ?_
  rintro e w4 ⟨rfl, hb4⟩
  generalize hmo : numT (s.extract (k + 13) (k + 13 + 13)) = mo at *
  have HG4 := Lib.hid (grown_new (grown_below HG3.out hb4) (show w.heap.size ≤ w2.heap.size by omega) 2 (.int .i64 mo))
  have HP4 := Lib.hid ((HP3.out.below hb4).other (show w.heap.size ≠ w2.heap.size by omega) 2 (.int .i64 mo))
  have HX4 := Lib.hid ((HX3.out.below hb4).set2 (.int .i64 mo))
  have HR4 := Lib.hid ((HR3.out.below hb4 HR3.out.lt).other (show b ≠ w2.heap.size by omega) 2 (.int .i64 mo))
  obtain ⟨⟨_, _, x2, _⟩, _, _, z2, _⟩ := (HX3.out.below hb4).cells
  clear hb4 HG3 HP3 HR3 HX3 HNM
  go_wp2_with fail
  clear x2 z2
  generalize w4.setCell ⟨w2.heap.size, 2, none⟩ (.int .i64 mo) = w5 at *
  refine (digits_any b s (k + 26) 6 _ HR4.out h5 (by omega) (by omega) hs).mono ?_
  rintro e w6 ⟨hg, ⟨rfl, h1, h2, h6⟩ | ⟨o, ho, rfl, h1, h2⟩⟩
  case' inr =>
    have HG := Lib.hid (HG4.out.trans hg)
    have H := Lib.hid (stop HQ3.out ho h1 h2 (show 1 + 12 + 13 + 6 ≤ 45 by omega) (fun j hj => lineQ_dig s k 26 j (by omega)))
    clear hg h1 h2
    go_wp2_with fail
    exact ⟨rfl, HG.out, .inr ⟨26 + o, pan_at (by omega), H.out⟩⟩
  have HG6 := Lib.hid (HG4.out.trans hg)
  have HP6 := Lib.hid (HP4.out.kept hg (by omega))
  have HX6 := Lib.hid (HX4.out.kept hg hgb)
  have HR6 := Lib.hid h2
  have HQ6 := Lib.hid (more HQ3.out h1 (fun j hj => lineQ_dig s k 26 j (by omega)))
  have HNM := Lib.hid (fun w => num_any h6 (by omega) h1 w)
  clear hg h1 h2 HG4 HP4 HR4 HX4 HQ3
  go_wp2_with fail
  refine (HNM.out _).mono ?_
  rintro e w7 ⟨rfl, hb7⟩
  generalize hrf : numT (s.extract (k + 26) (k + 26 + 6)) = rf at *
  have HG7 := Lib.hid (grown_new (grown_below HG6.out hb7) (show w.heap.size ≤ w2.heap.size by omega) 3 (.int .i64 rf))
  have HP7 := Lib.hid ((HP6.out.below hb7).other (show w.heap.size ≠ w2.heap.size by omega) 3 (.int .i64 rf))
  have HX7 := Lib.hid ((HX6.out.below hb7).set3 (.int .i64 rf))
  have HR7 := Lib.hid ((HR6.out.below hb7 HR6.out.lt).other (show b ≠ w2.heap.size by omega) 3 (.int .i64 rf))
  obtain ⟨⟨_, _, _, x3⟩, _, _, _, z3⟩ := (HX6.out.below hb7).cells
  clear hb7 HG6 HP6 HR6 HX6 HNM
  go_wp2_with fail
  clear x3 z3
  generalize w7.setCell ⟨w2.heap.size, 3, none⟩ (.int .i64 rf) = w8 at *
  refine (name_any b s (k + 32) _ HR7.out h6 (by omega) hs).mono ?_
  rintro e w9 ⟨hg, ⟨rfl, h1, h2, h7⟩ | ⟨o, ho, rfl, h1, h2⟩⟩
  case' inr =>
    have HG := Lib.hid (HG7.out.trans hg)
    have H := Lib.hid (stop HQ6.out ho h1 h2 (show 1 + 12 + 13 + 6 + 12 ≤ 45 by omega) (fun j hj => lineQ_nam s k j hj))
    clear hg h1 h2
    go_wp2_with fail
    exact ⟨rfl, HG.out, .inr ⟨32 + o, pan_at (by omega), H.out⟩⟩
  generalize hnm : nmT s (k + 32) = nm at *
  have HG9 := Lib.hid (grown_new (HG7.out.trans hg) (show w.heap.size ≤ w2.heap.size by omega) 1 (.string nm))
  have HP9 := Lib.hid ((HP7.out.kept hg (by omega)).other (show w.heap.size ≠ w2.heap.size by omega) 1 (.string nm))
  have HX9 := Lib.hid ((HX7.out.kept hg hgb).set1 (.string nm))
  have HR9 := Lib.hid (h2.other (show b ≠ w2.heap.size by omega) 1 (.string nm))
  have HQ9 := Lib.hid (more HQ6.out h1 (fun j hj => lineQ_nam s k j hj))
  obtain ⟨⟨_, x1, _, _⟩, _, z1, _, _⟩ := (HX7.out.kept hg hgb).cells
  clear hg h1 h2 HG7 HP7 HR7 HX7 HQ6
  go_wp2_with fail
  clear x1 z1
  generalize w9.setCell ⟨w2.heap.size, 1, none⟩ (.string nm) = w10 at *
  refine (sign_any b s (k + 44) 10 _ (by omega) HR9.out h7 (by omega) hs).mono ?_
  rintro e w11 ⟨hg, ⟨rfl, h1, h2, h8⟩ | ⟨rfl, h1⟩⟩
  case' inr =>
    have HG := Lib.hid (HG9.out.trans hg)
    have H : Hid (Stops (lineQ s k) 45 44) := ⟨by omega, HQ9.out, h1⟩
    clear hg h1
    go_wp2_with fail
    exact ⟨rfl, HG.out, .inr ⟨44, rfl, H.out⟩⟩
  have HG11 := Lib.hid (HG9.out.trans hg)
  have HP11 := Lib.hid (HP9.out.kept hg (by omega))
  have HX11 := Lib.hid (HX9.out.kept hg hgb)
  have HR11 := Lib.hid h2
  have HQ11 : Hid (∀ j, j < 45 → lineQ s k j = true) := fun j hj => by
    rcases (show j < 44 ∨ j = 44 by omega) with h | rfl
    · exact HQ9.out j h
    · exact h1
  clear hg h1 h2 HG9 HP9 HR9 HX9 HQ9
  obtain ⟨⟨x0, x1, x2, x3⟩, _⟩ := HX11.out.cells
  obtain ⟨⟨y0, y1, y2, y3⟩, z0, z1, z2, z3⟩ := HP11.out.cells
  have hne : w.heap.size ≠ w2.heap.size := by omega
  have HPF := Lib.hid ((((HP11.out.set0 (.string ac)).set1 (.string nm)).set2 (.int .i64 mo)).set3 (.int .i64 rf))
  have HGF := Lib.hid (grown_new (grown_new (grown_new (grown_new HG11.out (Nat.le_refl _) 0 (.string ac)) (Nat.le_refl _) 1 (.string nm)) (Nat.le_refl _) 2 (.int .i64 mo)) (Nat.le_refl _) 3 (.int .i64 rf))
  have hbn : b ≠ w.heap.size := by omega
  have HRF := Lib.hid ((((HR11.out.other hbn 0 (.string ac)).other hbn 1 (.string nm)).other hbn 2 (.int .i64 mo)).other hbn 3 (.int .i64 rf))
  go_wp2_with fail
  clear x0 x1 x2 x3 y0 y1 y2 y3 z0 z1 z2 z3
  generalize (((w11.setCell ⟨w.heap.size, 0, none⟩ (.string ac)).setCell ⟨w.heap.size, 1, none⟩ (.string nm)).setCell ⟨w.heap.size, 2, none⟩ (.int .i64 mo)).setCell ⟨w.heap.size, 3, none⟩ (.int .i64 rf) = wf at *
  obtain ⟨⟨q0, q1, q2, q3⟩, _⟩ := HPF.out.cells
  have HPOST : Hid (w.grownBy wf (some b) ∧ (((.returned (.agg #[.string ac, .string nm, .int .i64 mo, .int .i64 rf]) : Ending) = .returned (.agg #[.string (pyOf s k).acc, .string (pyOf s k).nam, .int .i64 (pyOf s k).mon, .int .i64 (pyOf s k).ref]) ∧ (∀ j, j < 45 → lineQ s k j = true) ∧ Rd wf b s (k + 45) ∧ k + 45 ≤ s.size) ∨ ∃ o, (.returned (.agg #[.string ac, .string nm, .int .i64 mo, .int .i64 rf]) : Ending) = .panicked (gone 1 ((k + o : Nat) : Int)) ∧ Stops (lineQ s k) 45 o)) :=
    ⟨HGF.out, .inl ⟨by rw [HPY.out.1, HPY.out.2.1, HPY.out.2.2.1, HPY.out.2.2.2], HQ11.out, HRF.out, h8⟩⟩
  refine bodyPost_ret (v := .agg #[.string ac, .string nm, .int .i64 mo, .int .i64 rf]) (by simp [results, Tryd.results70, go_sem, q0, q1, q2, q3]) rfl HPOST.out
end Go.Proofs.YtdfgkngfpedgdaaDoor
