/-
  Promise C5: walks of areCuts, lengths, Split and of the reference's SplitParts.
-/
import Derived.Test.YtckealcgbjgfhaaDoorPPro
import Derived.Test.YtckealcgbjgfhaaDoorMShareV
import Derived.Test.YtckealcgbjgfhaaDoorMGrow
namespace Go.Proofs.YtckealcgbjgfhaaDoor
open Go.RowKit Mny

theorem same_none (w : World) : Calls Tryd.prog 9 #[.slice none 0 0, .slice none 0 0] w fun e w' => e = .returned (.bool true) ∧ w' = w := by
  go_enter Tryd.func9, Tryd.ntmps9
  go_wp2
  go_loop [5] (fun i => i = .int .i64 0) (fun _ => 0)
  case atStart => rfl
  case round =>
    subst hrel
    go_wp2
    go_ret
    exact ⟨rfl, rfl⟩

/-- Where the piece with the number k begins. -/
def prevD (f : Int) (l : List Int) : Nat → Int
  | 0 => f
  | k + 1 => nth l k
/-- Are the first k cuts right? -/
def cutsTo (f t : Int) (l : List Int) (k : Nat) : Prop := ∀ j, j < k → prevD f l j < nth l j ∧ nth l j ≤ t
def cutB (f t : Int) (l : List Int) : Nat → Bool
  | 0 => true
  | k + 1 => cutB f t l k && decide (prevD f l k < nth l k ∧ nth l k ≤ t)
theorem cutB_iff {f t : Int} {l : List Int} : ∀ {k : Nat}, cutB f t l k = true ↔ cutsTo f t l k
  | 0 => ⟨fun _ j hj => absurd hj (by omega), fun _ => rfl⟩
  | k + 1 => by
    rw [cutB, Bool.and_eq_true, cutB_iff (k := k), decide_eq_true_iff]
    refine ⟨fun h j hj => ?_, fun h => ⟨fun j hj => h j (by omega), h k (by omega)⟩⟩
    rcases (show j < k ∨ j = k by omega) with e | rfl
    · exact h.1 j e
    · exact h.2
theorem cutB_no {f t : Int} {l : List Int} {k n : Nat} (hk : k < n) (h : ¬ (prevD f l k < nth l k ∧ nth l k ≤ t)) : cutB f t l n = false := by
  cases hc : cutB f t l n
  · rfl
  · exact absurd (cutB_iff.1 hc k hk) h
theorem prevD_bd {f t : Int} {l : List Int} {k : Nat} (hp : perB f t = true) (h : cutsTo f t l k) : 0 ≤ prevD f l k ∧ prevD f l k ≤ t := by
  have hh := perB_iff.1 hp
  have : ∀ j, j ≤ k → 0 ≤ prevD f l j ∧ prevD f l j ≤ t := by
    intro j
    induction j with
    | zero => intro _; exact ⟨hh.1, hh.2.1⟩
    | succ j ih =>
      intro hj
      have h1 := ih (by omega)
      have h2 := h j (by omega)
      exact ⟨show 0 ≤ nth l j by omega, h2.2⟩
  exact this k (Nat.le_refl _)
/-- How long the first k pieces are; and all of them. -/
def lensK (f : Int) (l : List Int) (k : Nat) : List Int := (List.range k).map fun j => nth l j - prevD f l j
def lens (f t : Int) (l : List Int) : List Int := lensK f l l.length ++ [t - prevD f l l.length + 1]
theorem lensK_succ (f : Int) (l : List Int) (k : Nat) : lensK f l (k + 1) = lensK f l k ++ [nth l k - prevD f l k] := by simp [lensK, List.range_succ]
theorem lensK_length (f : Int) (l : List Int) (k : Nat) : (lensK f l k).length = k := by simp [lensK]
theorem lens_length (f t : Int) (l : List Int) : (lens f t l).length = l.length + 1 := by unfold lens; rw [List.length_append, lensK_length]; rfl
/-- A period in a box. -/
def PBox (w : World) (g : Nat) (f t : Int) : Prop := w.cell? ⟨g, 0, none⟩ = some (.int .i64 f) ∧ w.cell? ⟨g, 1, none⟩ = some (.int .i64 t)
theorem PBox.made (w : World) (f t : Int) (T : TypeId) : PBox (w.alloc (.cells #[.int .i64 f, .int .i64 t] T)) w.heap.size f t := ⟨by simp, by simp⟩
theorem PBox.lt {w : World} {g : Nat} {f t : Int} (h : PBox w g f t) : g < w.heap.size := lt_of_cell h.1
theorem PBox.below {w w' : World} {g : Nat} {f t : Int} (h : PBox w g f t) {B : Nat} (hb : Below B w w') (hB : g < B) : PBox w' g f t :=
  ⟨(hb.cell (p := ⟨g, 0, none⟩) hB).trans h.1, (hb.cell (p := ⟨g, 1, none⟩) hB).trans h.2⟩

set_option maxRecDepth 100000 in
set_option maxHeartbeats 1000000 in
theorem areCuts_any (f t : Int) (a : Option Addr) (n cap : Nat) (l : List Int) (w : World) (hc : Came w a l) (hn : l.length = n) (hm : n ≤ 20) :
    Calls Tryd.prog 18 #[.agg #[.int .i64 f, .int .i64 t], .slice a n cap] w fun e w' => e = .returned (.bool (cutB f t l n)) ∧ Below w.heap.size w w' := by
  have HC := Lib.hid hc
  have HN := Lib.hid hn
  have HB0 := Lib.hid ((Below.refl w.heap.size w).alloc (Nat.le_refl _) (.cells #[.int .i64 f, .int .i64 t] 24))
  have HX0 := Lib.hid (PBox.made w f t 24)
  clear hc hn
  go_enter Tryd.func18, Tryd.ntmps18
  go_wp2_with fail
  go_loop [5, 12] (fun pv iv => ∃ k : Nat, k ≤ n ∧ iv = .int .i64 k ∧ pv = .int .i64 (prevD f l k) ∧ cutB f t l k = true) (fun _ iv => n - (intOf iv).toNat)
  case atStart => exact ⟨0, Nat.zero_le _, rfl, rfl, rfl⟩
  case round =>
    obtain ⟨k, hk, rfl, rfl, hct⟩ := hrel
    have HCT := Lib.hid hct
    clear hct
    obtain ⟨x0, x1⟩ := HX0.out
    by_cases hlt : k < n
    · have hlt' : (k : Int) < (n : Int) := by omega
      obtain ⟨b, off, rfl, hat⟩ : ∃ b off, a = some ⟨b, off, none⟩ ∧ At w b off l := by
        rcases HC.out with h | h
        · have := HN.out; omega
        · exact h
      have p0 := (hat.below HB0.out hat.1).2 k (by rw [HN.out]; exact hlt)
      have HNX : Hid (prevD f l (k + 1) = nth l k) := rfl
      have HCS : Hid (cutB f t l (k + 1) = (cutB f t l k && decide (prevD f l k < nth l k ∧ nth l k ≤ t))) := rfl
      have HNO := Lib.hid (fun h => cutB_no (f := f) (t := t) (l := l) hlt h)
      clear hat
      generalize prevD f l k = p at *
      generalize nth l k = c at *
      by_cases h1 : c ≤ p
      · have h1B : decide (c ≤ p) = true := decide_eq_true h1
        have HE := Lib.hid (HNO.out (fun h => by omega))
        go_wp2_with fail
        go_ret
        exact ⟨cret_bool HE.out.symm, HB0.out⟩
      · have h1B : decide (c ≤ p) = false := decide_eq_false h1
        by_cases h2 : t < c
        · have HE := Lib.hid (HNO.out (fun h => by omega))
          have h2B : decide (t < c) = true := decide_eq_true h2
          go_wp2_with fail
          go_ret
          exact ⟨cret_bool HE.out.symm, HB0.out⟩
        · have h2B : decide (t < c) = false := decide_eq_false h2
          go_wp2_with fail
          go_round
          case rel => exact ⟨k + 1, by omega, by go_num, by rw [HNX.out], by rw [HCS.out, HCT.out]; exact decide_eq_true ⟨by omega, by omega⟩⟩
          case measure => simp [intOf]; omega
    · obtain rfl : k = n := by omega
      have hlB : decide ((k : Int) < (k : Int)) = false := decide_eq_false (by omega)
      go_wp2_with fail
      go_ret
      exact ⟨cret_bool HCT.out.symm, HB0.out⟩
theorem make_cap (n : Nat) (h : n ≤ 60) (w : World) :
    (Instr.makeSlice 22 (.int .i64 0) (.int .i64 ((n : Int) + 1))).run Tryd.prog w = .ok (.slice (some ⟨w.heap.size, 0, none⟩) 0 (n + 1)) (w.alloc (.cells (madeCells #[.int .i64 0] (n + 1)) 3)) := by
  obtain ⟨i0, hi, hz0, hz1, hz2⟩ := info_parts info_int
  have h := run_make (P := Tryd.prog) w 22 3 i0 _ Tryd.underlying22 hi hz0 .i64 .i64 0 ((n : Int) + 1) (by omega) (by omega) (by rw [hz2]; omega) (by omega)
  have e : ((n : Int) + 1).toNat = n + 1 := by omega
  rw [e, hz1] at h
  simpa [Value.cells] using h
theorem grow_made (w : World) (n : Nat) {B : Nat} (hB : B ≤ w.heap.size) (hn : n ≤ 60) : Grow (w.alloc (.cells (madeCells #[.int .i64 0] (n + 1)) 3)) B (.slice (some ⟨w.heap.size, 0, none⟩) 0 (n + 1)) [] :=
  World.ownsRow_made (w := w) _ (n + 1) hB (by unfold maxLen; omega) (by rw [size_madeCells]; omega)
theorem Grow.below {w w' : World} {B : Nat} {v : Value} {l : List Int} (h : Grow w B v l) (hb : Below w.heap.size w w') : Grow w' B v l := by
  refine World.ownsRow.kept (row := none) h ⟨hb.os, hb.tape, hb.output, hb.size, fun k hk _ => hb.block k hk⟩ ?_
  cases v.ownBlock with
  | none => exact .inl rfl
  | some k => exact .inr (Option.some_ne_none k)
theorem own_at {w : World} {g : Nat} {l : List Int} (h : Own w g l) : At w g 0 l := ⟨h.1, fun j hj => by rw [Nat.zero_add]; exact (h.2 j hj).1⟩

set_option maxRecDepth 100000 in
set_option maxHeartbeats 1000000 in
theorem lengths_any (f t : Int) (a : Option Addr) (n cap : Nat) (l : List Int) (w : World) (hc : Came w a l) (hn : l.length = n) (hm : n ≤ 20) (hp : perB f t = true) (hct : cutsTo f t l n) :
    Calls Tryd.prog 19 #[.agg #[.int .i64 f, .int .i64 t], .slice a n cap] w fun e w' => ∃ g c, e = .returned (.slice (some ⟨g, 0, none⟩) (n + 1) c) ∧ At w' g 0 (lens f t l) ∧ w.heap.size ≤ g ∧ Below w.heap.size w w' := by
  have HC := Lib.hid hc
  have HN := Lib.hid hn
  have HCT := Lib.hid hct
  have HP := Lib.hid hp
  obtain ⟨pf0, pft, pt1⟩ := perB_iff.1 hp
  have hb0 := (Below.refl w.heap.size w).alloc (Nat.le_refl _) (.cells #[.int .i64 f, .int .i64 t] 24)
  have HB0 := Lib.hid (hb0.alloc (by simp) (.cells (madeCells #[.int .i64 0] (n + 1)) 3))
  have HX0 := Lib.hid ((PBox.made w f t 24).below ((Below.refl _ _).alloc (Nat.le_refl _) (.cells (madeCells #[.int .i64 0] (n + 1)) 3)) (by simp))
  have HG0 := Lib.hid (grow_made (w.alloc (.cells #[.int .i64 f, .int .i64 t] 24)) n (B := w.heap.size + 1) (by simp) (by omega))
  have hmk := make_cap n (by omega)
  clear hc hn hct hp hb0
  go_enter Tryd.func19, Tryd.ntmps19
  go_wp2_with fail
  go_loopw [5, 6, 17] (fun dv pv iv wr => ∃ k : Nat, k ≤ n ∧ iv = .int .i64 k ∧ pv = .int .i64 (prevD f l k) ∧ Grow wr (w.heap.size + 1) dv (lensK f l k) ∧ PBox wr w.heap.size f t ∧ Below w.heap.size w wr) (fun _ _ iv _ => n - (intOf iv).toNat)
  case atStart => exact ⟨0, Nat.zero_le _, rfl, rfl, by have h := HG0.out; simp at h; exact h, HX0.out, HB0.out⟩
  case round =>
    clear HG0 HX0 HB0 hmk
    obtain ⟨k, hk, rfl, rfl, hgr, hbx, hb⟩ := hrel
    have HG := Lib.hid hgr
    have HX := Lib.hid hbx
    have HB := Lib.hid hb
    obtain ⟨x0, x1⟩ := hbx
    clear hgr hb
    have hpd := prevD_bd (k := k) HP.out (fun j hj => HCT.out j (by omega))
    have HPD : Hid (prevD f l (k + 1) = nth l k) := rfl
    have HLS := Lib.hid (lensK_succ f l k)
    have HLL := Lib.hid (lensK_length f l k)
    have hsz : w.heap.size + 1 ≤ wr.heap.size := by have := lt_of_cell x0; simp at this; omega
    by_cases hlt : k < n
    · have hlt' : (k : Int) < (n : Int) := by omega
      obtain ⟨b, off, rfl, hat⟩ : ∃ b off, a = some ⟨b, off, none⟩ ∧ At w b off l := by
        rcases HC.out with h | h
        · have := HN.out; omega
        · exact h
      have p0 := (hat.below HB.out hat.1).2 k (by rw [HN.out]; exact hlt)
      obtain ⟨hc1, hc2⟩ := HCT.out k hlt
      clear hat
      generalize prevD f l k = p at *
      generalize nth l k = c at *
      go_wp2_with (at_builtin; refine wpList_app _ rfl _ _ rfl (w.heap.size + 1) _ (lensK f l k) rfl ?hgw ⟨wr.heap.size, 0, none⟩ 1 (c - p) rfl ?hz ?hl ?hB ?_; rotate_right; intro v9 w9 hg9 hgr9 hd9 hs9; refine Hid.out ?_)
      case hgw => exact HG.out.alloc _
      case hz => simp
      case hl => rw [HLL.out]; omega
      case hB => simp; omega
      have HB9 := Lib.hid ((HB.out.alloc HB.out.size _).grown hgr9 (by have := HB.out.size; simp; omega) (fun j hj => by have := (HG.out.lt j hj).1; omega))
      have hb19 : Below (w.heap.size + 1) wr w9 := ((Below.refl (w.heap.size + 1) wr).alloc hsz _).grown hgr9 (by simp; omega) (fun j hj => (HG.out.lt j hj).1)
      have HX9 := Lib.hid (HX.out.below hb19 (by omega))
      have HG9 := Lib.hid hg9
      clear hg9 hgr9 hd9 hs9 hb19 x0 x1 p0
      refine Lib.hid ?_
      go_wp2_with fail
      go_roundw
      case rel => exact ⟨k + 1, by omega, by go_num, by rw [HPD.out], by rw [HLS.out]; exact HG9.out, HX9.out, HB9.out⟩
      case measure => simp [intOf]; omega
    · obtain rfl : k = n := by omega
      have hlB : decide ((k : Int) < (k : Int)) = false := decide_eq_false (by omega)
      have HLN : Hid (lens f t l = lensK f l k ++ [t - prevD f l k + 1]) := by unfold Hid lens; rw [HN.out]
      clear HLS HPD
      generalize prevD f l k = p at *
      go_wp2_with (at_builtin; refine wpList_app _ rfl _ _ rfl (w.heap.size + 1) _ (lensK f l k) rfl ?hgw ⟨wr.heap.size, 0, none⟩ 1 (t - p + 1) rfl ?hz ?hl ?hB ?_; rotate_right; intro v9 w9 hg9 hgr9 hd9 hs9; refine Hid.out ?_)
      case hgw => exact HG.out.alloc _
      case hz => simp
      case hl => rw [HLL.out]; omega
      case hB => simp; omega
      have HB9 := Lib.hid ((HB.out.alloc HB.out.size _).grown hgr9 (by have := HB.out.size; simp; omega) (fun j hj => by have := (HG.out.lt j hj).1; omega))
      obtain ⟨g, c, hv9, hBg, hown⟩ := hg9.own (by simp)
      subst hv9
      have HA9 : Hid (At w9 g 0 (lens f t l)) := by rw [Hid, HLN.out]; exact own_at hown
      have HGE : Hid (w.heap.size ≤ g) := by simp only [Hid]; omega
      rw [List.length_append, HLL.out]
      clear hg9 hgr9 hd9 hs9 hown hBg x0 x1
      refine Lib.hid ?_
      go_wp2_with fail
      go_ret
      exact ⟨g, c, rfl, HA9.out, HGE.out, HB9.out⟩
/-- What is wrong with a split; what it comes to. -/
def splE (T f t : Int) (l : List Int) : Int := if perB f t = false then 3 else if 20 ≤ l.length then 2 else if cutB f t l l.length = false then 4 else shareE T (lens f t l)
def SplIs (w' : World) (B : Nat) (T f t : Int) (l : List Int) (v : Value) (er : Int) : Prop :=
  (splE T f t l ≠ 0 ∧ v = .slice none 0 0 ∧ er = splE T f t l) ∨ (splE T f t l = 0 ∧ er = 0 ∧ ∃ g c, v = .slice (some ⟨g, 0, none⟩) (l.length + 1) c ∧ B ≤ g ∧ Own w' g (shareL T (lens f t l)))
theorem splE_share {T f t : Int} {l : List Int} (h1 : perB f t = true) (h2 : l.length < 20) (h3 : cutB f t l l.length = true) : splE T f t l = shareE T (lens f t l) := by
  unfold splE
  rw [if_neg (by simp [h1]), if_neg (by omega), if_neg (by simp [h3])]
/-- Share at a list that lies in memory. -/
theorem share_at (T : Int) (g c n : Nat) (l : List Int) (w : World) (hn : l.length = n) (h1 : 1 ≤ n) (h2 : n ≤ 20) (hat : At w g 0 l) :
    Calls Tryd.prog 7 #[.int .i64 T, .slice (some ⟨g, 0, none⟩) n c] w fun e w' => ∃ v er, e = .returned (.tuple #[v, .int .i64 er]) ∧ ((shareE T l ≠ 0 ∧ v = .slice none 0 0 ∧ er = shareE T l) ∨ (shareE T l = 0 ∧ er = 0 ∧ ∃ g c, v = .slice (some ⟨g, 0, none⟩) n c ∧ w.heap.size ≤ g ∧ Own w' g (shareL T l))) ∧ Below w.heap.size w w' := by
  subst hn
  by_cases hbad : T < 0 ∨ 1000000000000 < T
  · have hE : shareE T l ≠ 0 := by
      unfold shareE
      rw [if_neg (by omega), if_pos (by omega)]; decide
    refine (share_bad1 T _ l c w (by omega) (by omega)).mono ?_
    rintro e w' ⟨rfl, rfl⟩
    exact ⟨_, _, rfl, .inl ⟨hE, rfl, rfl⟩, Below.refl _ _⟩
  · refine (share_in T g 0 l c w (by omega) (by omega) (by omega) (by omega) hat).mono ?_
    rintro e w' (⟨hE, rfl, rfl⟩ | ⟨hE, rfl, ho, hb⟩)
    · exact ⟨_, _, rfl, .inl ⟨hE, rfl, rfl⟩, Below.refl _ _⟩
    · exact ⟨_, _, rfl, .inr ⟨hE, rfl, _, _, rfl, Nat.le_refl _, ho⟩, hb⟩
theorem At.below' {w w' : World} {b off : Nat} {l : List Int} (h : At w b off l) (hb : Below w.heap.size w w') : At w' b off l := h.below hb h.1

set_option maxRecDepth 100000 in
set_option maxHeartbeats 1000000 in
theorem Split_any (T f t : Int) (a : Option Addr) (n cap : Nat) (l : List Int) (w : World) (hc : Came w a l) (hn : l.length = n) (hm : n ≤ maxLen) :
    Calls Tryd.prog 8 #[.int .i64 T, .agg #[.int .i64 f, .int .i64 t], .slice a n cap] w fun e w' => ∃ v er, e = .returned (.tuple #[v, .int .i64 er]) ∧ SplIs w' w.heap.size T f t l v er ∧ Below w.heap.size w w' := by
  have HC := Lib.hid hc
  have HN := Lib.hid hn
  unfold maxLen at hm
  have HB0 := Lib.hid ((Below.refl w.heap.size w).alloc (Nat.le_refl _) (.cells #[.int .i64 f, .int .i64 t] 24))
  have HX0 := Lib.hid (PBox.made w f t 24)
  clear hc hn
  cases hp : perB f t
  · have HE : Hid (splE T f t l = 3) := if_pos hp
    have HH := Lib.hid (fun w => hasDays_any f t w)
    rw [hp] at HH
    clear hp
    go_enter Tryd.func8, Tryd.ntmps8
    go_wp2_with fail
    refine (HH.out _).mono ?_
    rintro e w1 ⟨rfl, hb1⟩
    have HB1 := Lib.hid (HB0.out.trans (hb1.mono HB0.out.size))
    clear hb1
    go_wp2_with fail
    go_ret2
    exact ⟨_, _, rfl, .inl ⟨by rw [HE.out]; decide, rfl, HE.out.symm⟩, HB1.out⟩
  · have HH := Lib.hid (fun w => hasDays_any f t w)
    have HP := Lib.hid hp
    rw [hp] at HH
    clear hp
    go_enter Tryd.func8, Tryd.ntmps8
    go_wp2_with fail
    refine (HH.out _).mono ?_
    rintro e w1 ⟨rfl, hb1⟩
    have HB1 := Lib.hid (HB0.out.trans (hb1.mono HB0.out.size))
    have HX1 := Lib.hid (HX0.out.below hb1 (by simp))
    have hg1 : w.heap.size < w1.heap.size := Nat.lt_of_lt_of_le (by simp) hb1.size
    clear hb1 HX0 HB0 HH
    obtain ⟨x0, x1⟩ := HX1.out
    by_cases h20 : 20 ≤ n
    · have h20' : (20 : Int) ≤ (n : Int) := by omega
      have HE : Hid (splE T f t l = 2) := by unfold Hid splE; rw [if_neg (by simp [HP.out]), if_pos (by rw [HN.out]; exact h20)]
      go_wp2_with fail
      go_ret2
      exact ⟨_, _, rfl, .inl ⟨by rw [HE.out]; decide, rfl, HE.out.symm⟩, HB1.out⟩
    · have h20B : decide ((20 : Int) ≤ (n : Int)) = false := decide_eq_false (by omega)
      go_wp2_with fail
      refine (areCuts_any f t a n cap l w1 (HC.out.below HB1.out) HN.out (by omega)).mono ?_
      rintro e w2 ⟨rfl, hb2⟩
      have HB2 := Lib.hid (HB1.out.trans (hb2.mono HB1.out.size))
      have HX2 := Lib.hid (HX1.out.below hb2 hg1)
      have hg2 : w.heap.size < w2.heap.size := Nat.lt_of_lt_of_le hg1 hb2.size
      clear hb2 HX1 HB1 x0 x1
      obtain ⟨x0, x1⟩ := HX2.out
      cases hct : cutB f t l n
      · have HE : Hid (splE T f t l = 4) := by unfold Hid splE; rw [if_neg (by simp [HP.out]), if_neg (by rw [HN.out]; exact h20), if_pos (by rw [HN.out]; exact hct)]
        clear hct
        go_wp2_with fail
        go_ret2
        exact ⟨_, _, rfl, .inl ⟨by rw [HE.out]; decide, rfl, HE.out.symm⟩, HB2.out⟩
      · have HE := Lib.hid (splE_share (T := T) HP.out (by rw [HN.out]; omega) (by rw [HN.out]; exact hct))
        have HCT := Lib.hid (cutB_iff.1 hct)
        clear hct
        go_wp2_with fail
        refine (lengths_any f t a n cap l w2 (HC.out.below HB2.out) HN.out (by omega) HP.out HCT.out).mono ?_
        rintro e w3 ⟨g, c, rfl, hat, hge, hb3⟩
        have HAT := Lib.hid hat
        have HB3 := Lib.hid (HB2.out.trans (hb3.mono HB2.out.size))
        clear hb3 hat HX2 x0 x1
        go_wp2_with fail
        refine (share_at T g c (n + 1) (lens f t l) w3 (by rw [lens_length, HN.out]) (by omega) (by omega) HAT.out).mono ?_
        rintro e w4 ⟨v, er, rfl, hv, hb4⟩
        have HB4 := Lib.hid (HB3.out.trans (hb4.mono HB3.out.size))
        have HV : Hid (SplIs w4 w.heap.size T f t l v er) := by
          unfold Hid SplIs
          rw [HE.out]
          rcases hv with h | ⟨h1, h2, g4, c4, h3, h4, h5⟩
          · exact .inl h
          · exact .inr ⟨h1, h2, g4, c4, by rw [h3, HN.out], by have := HB3.out.size; omega, h5⟩
        clear hb4 hv
        go_wp2_with fail
        go_ret2
        exact ⟨_, _, rfl, HV.out, HB4.out⟩
end Go.Proofs.YtckealcgbjgfhaaDoor
