/-
  Promise P3: the walks of parse and Parse.
-/
import Derived.Test.YtdfgkngfpedgdaaDoorBParse
namespace Go.Proofs.YtdfgkngfpedgdaaDoor
open Go.RowKit

def dayT (s : ByteArray) : Int := numT (s.extract 1 (1 + 5))
/-- What is wrong with a text, and where. -/
def BadIs (s : ByteArray) (er a : Int) : Prop := (er = 1 ∧ ∃ c o : Nat, a = (o : Int) ∧ (o < 25 ∨ numT (s.extract 6 (6 + 3)) = (c : Int)) ∧ c ≤ 999 ∧ Stops (fileQ s c) (25 + 45 * c + 13) o) ∨ (a = 0 ∧ ∃ c, Form s c ∧ er = cmpE s (dayT s) (lnsOf s c) c)
/-- What Parse comes to. -/
def ParseIs (s : ByteArray) (w : World) (e : Ending) (w' : World) : Prop :=
  Below w.heap.size w w' ∧ ((∃ (c : Nat) (v : Value), Form s c ∧ cmpE s (dayT s) (lnsOf s c) c = 0 ∧ e = .returned (.tuple #[.int .i64 (dayT s), v, .agg #[.int .i64 0, .int .i64 0]]) ∧ GrowP w' w.heap.size v (lnsOf s c))
    ∨ ∃ er a : Int, er ≠ 0 ∧ e = .returned (.tuple #[.int .i64 0, .slice none 0 0, .agg #[.int .i64 er, .int .i64 a]]) ∧ BadIs s er a)
theorem GrowP.set {w : World} {B p : Nat} {v : Value} {l : List Py} (h : GrowP w B v l) (hp : p < B) (i : Nat) (u : Value) : GrowP (w.setCell ⟨p, i, none⟩ u) B v l := h.keptB (grown_set w p i u) hp
theorem GrowP.laid {w : World} {B p : Nat} {v : Value} {l : List Py} (h : GrowP w B v l) (hp : p + 2 < B) (x y f a : Value) : GrowP (laid w p x y f a) B v l := by
  unfold Go.Proofs.YtdfgkngfpedgdaaDoor.laid
  exact (((h.set (by omega) 0 x).set (by omega) 0 y).set (by omega) 0 f).set (by omega) 1 a
theorem Res.grown {w w' : World} {p : Nat} {x y f a : Value} {b : Nat} (h : Res w p x y f a) (hg : w.grownBy w' (some b)) (hb : p + 2 < b) : Res w' p x y f a :=
  ⟨h.1.grown hg (fun e => by injection e; omega), h.2.1.grown hg (fun e => by injection e; omega), h.2.2.grown hg (fun e => by injection e; omega)⟩
theorem Res.below {w w' : World} {p : Nat} {x y f a : Value} (h : Res w p x y f a) (hb : Below w.heap.size w w') : Res w' p x y f a := ⟨h.1.below hb, h.2.1.below hb, h.2.2.below hb⟩
theorem Res.put2 {w : World} {p : Nat} {x y f a : Value} (h : Res w p x y f a) (x' y' : Value) : Res ((w.setCell ⟨p, 0, none⟩ x').setCell ⟨p + 1, 0, none⟩ y') p x' y' f a :=
  ⟨(h.1.set 0 x').other (by omega) 0 y', (h.2.1.other (by omega) 0 x').set 0 y', (h.2.2.other (by omega) 0 x').other (by omega) 0 y'⟩
set_option maxRecDepth 100000 in
set_option maxHeartbeats 2000000 in
theorem parse_any (s : ByteArray) (w : World) (ht : Tab w) (hs : s.size ≤ 9223372036854775807) :
    Calls Tryd.prog 45 #[.string s] w fun e w' => ParseIs s w e w' := by
  have HT := Lib.hid ht
  obtain ⟨W, hW⟩ : ∃ W, W = (((w.alloc (.cells #[.int .i64 0] 3)).alloc (.cells #[.slice none 0 0] 31)).alloc (.cells #[.int .i64 0, .int .i64 0] 38)).alloc (.cells #[.string s, .int .i64 0] 83) := ⟨_, rfl⟩
  have HB0 : Hid (Below w.heap.size w W) := by
    unfold Hid
    rw [hW]
    exact ((((Below.refl w.heap.size w).alloc (Nat.le_refl _) _).alloc (by simp) _).alloc (by simp; omega) _).alloc (by simp; omega) _
  have hWs : W.heap.size = w.heap.size + 4 := by rw [hW]; simp
  have HRS0 : Hid (Res W w.heap.size (.int .i64 0) (.slice none 0 0) (.int .i64 0) (.int .i64 0)) := by
    unfold Hid
    rw [hW]
    refine ⟨((OB.made w _ _).alloc _ |>.alloc _ |>.alloc _), ?_, ?_⟩
    · have := OB.made (w.alloc (.cells #[.int .i64 0] 3)) #[.slice none 0 0] 31
      rw [World.size_alloc] at this
      exact (this.alloc _).alloc _
    · have := OB.made ((w.alloc (.cells #[.int .i64 0] 3)).alloc (.cells #[.slice none 0 0] 31)) #[.int .i64 0, .int .i64 0] 38
      rw [World.size_alloc, World.size_alloc] at this
      exact this.alloc _
  have HRD : Hid (Rd W (w.heap.size + 3) s 0) := by
    have := OB.made (((w.alloc (.cells #[.int .i64 0] 3)).alloc (.cells #[.slice none 0 0] 31)).alloc (.cells #[.int .i64 0, .int .i64 0] 38)) #[.string s, .int .i64 0] 83
    rw [World.size_alloc, World.size_alloc, World.size_alloc, ← hW] at this
    exact ⟨this.two.1.1, this.two.2.1, this.two.2.2⟩
  have HW := Lib.hid hW
  clear ht hW
  have hmf : ∀ (fn : Fn) (first cap : Array Value) (w : World), (Instr.makeFunc fn first cap).run Tryd.prog w = .ok (.func fn first cap) w := fun _ _ _ _ => rfl
  go_enter_defers Tryd.func45, Tryd.ntmps45
  go_wp2_with fail
  rw [← HW.out]
  refine (file_any (w.heap.size + 3) s W HRD.out hs).mono ?_
  rintro e w1 ⟨hg, ⟨c, v, h1, h2, rfl, h4, h5, h6⟩ | ⟨c, o, h1, h2, rfl, h4⟩⟩
  case' inr =>
    have HRS1 := Lib.hid (HRS0.out.grown hg (by omega))
    have HB1 := Lib.hid (HB0.out.grown hg (by omega) (fun k hk => by cases hk; omega))
    have HBAD : Hid (BadIs s 1 (o : Int)) := .inl ⟨rfl, c, o, rfl, h1, h2, h4⟩
    clear hg h1 h2 h4
    go_wp2_with fail
    refine leaves_cons (f := 57) (args := #[.pointer (some ⟨w.heap.size, 0, none⟩), .pointer (some ⟨w.heap.size + 1, 0, none⟩), .pointer (some ⟨w.heap.size + 2, 0, none⟩)]) (by simp) (by simp [go_sem]) ?_
    refine (catch_gone w.heap.size 1 (o : Int) w1 HRS1.out).mono ?_
    rintro e1 u' w'' ⟨rfl, rfl, rfl⟩
    have HRF := HRS1.out.laid (.int .i64 0) (.slice none 0 0) (.int .i64 1) (.int .i64 (o : Int))
    have HBF := below_laid HB1.out (Nat.le_refl _) (.int .i64 0) (.slice none 0 0) (.int .i64 1) (.int .i64 (o : Int))
    generalize laid w1 w.heap.size (.int .i64 0) (.slice none 0 0) (.int .i64 1) (.int .i64 (o : Int)) = wf at *
    have q0 := HRF.1.one.1
    have q1 := HRF.2.1.one.1
    have q2 := HRF.2.2.two.1.1
    have q3 := HRF.2.2.two.2.1
    have HPOST : Hid (ParseIs s w (.returned (.tuple #[.int .i64 0, .slice none 0 0, .agg #[.int .i64 1, .int .i64 (o : Int)]])) wf.drew) := ⟨HBF.drew, .inr ⟨1, o, by decide, rfl, HBAD.out⟩⟩
    simp [Leaves, settle, results, Tryd.results45, go_sem, q0, q1, q2, q3]
    exact HPOST.out
  have hFORM : Form s c := ⟨h1, h2, h5, h6⟩
  have HFORM := Lib.hid hFORM
  have HRS1 := Lib.hid (HRS0.out.grown hg (by omega))
  have HB1 := Lib.hid (HB0.out.grown hg (by omega) (fun k hk => by cases hk; omega))
  have HGP1 := Lib.hid h4
  obtain ⟨xa, xc, hv, _⟩ := h4.slice
  rw [lnsOf_len] at hv
  subst hv
  have HDT : Hid (dayT s = numT (s.extract 1 (1 + 5))) := rfl
  rw [← HDT.out]
  clear hg h1 h4 h5 h6 hFORM HRS0 HB0 HRD HDT
  obtain ⟨⟨x0, z0⟩, ⟨x1, z1⟩⟩ := And.intro HRS1.out.1.one HRS1.out.2.1.one
  obtain ⟨day, hday⟩ : ∃ day, dayT s = day := ⟨_, rfl⟩
  have HDY := Lib.hid hday
  rw [hday]
  clear hday
  have HRS2 := Lib.hid (HRS1.out.put2 (.int .i64 day) (.slice xa c xc))
  have HGP2 := Lib.hid ((HGP1.out.set (p := w.heap.size) (by omega) 0 (.int .i64 day)).set (p := w.heap.size + 1) (by omega) 0 (.slice xa c xc))
  have HB2 := Lib.hid ((HB1.out.setCell (p := ⟨w.heap.size, 0, none⟩) (Nat.le_refl _) (.int .i64 day)).setCell (p := ⟨w.heap.size + 1, 0, none⟩) (by show w.heap.size ≤ w.heap.size + 1; omega) (.slice xa c xc))
  have HN := Lib.hid (lnsOf_len s c)
  have HFIT := Lib.hid HFORM.out.fit
  go_wp2_with fail
  clear x0 x1 z0 z1 HRS1 HB1 HGP1
  generalize (w1.setCell ⟨w.heap.size, 0, none⟩ (.int .i64 day)).setCell ⟨w.heap.size + 1, 0, none⟩ (.slice xa c xc) = w2 at *
  have HCM : Hid (CameP w2 xa (lnsOf s c)) := by
    obtain ⟨xb, xd, e1, e2⟩ := HGP2.out.slice
    rw [HN.out] at e1
    injection e1 with e3
    subst e3
    exact e2
  refine (compare_any s day xa c xc (lnsOf s c) w2 (HT.out.below HB2.out) HCM.out HFIT.out HN.out h2).mono ?_
  rintro e w3 ⟨hb3, ⟨h1, rfl⟩ | ⟨h1, rfl⟩⟩
  case' inr =>
    have HRS3 := Lib.hid (HRS2.out.below hb3)
    have HB3 := Lib.hid (HB2.out.trans (hb3.mono HB2.out.size))
    have HBAD : Hid (BadIs s (cmpE s day (lnsOf s c) c) 0) := .inr ⟨rfl, c, HFORM.out, by rw [HDY.out]⟩
    have HNZ := Lib.hid h1
    clear hb3 h1
    generalize cmpE s day (lnsOf s c) c = er at *
    go_wp2_with fail
    refine leaves_cons (f := 57) (args := #[.pointer (some ⟨w.heap.size, 0, none⟩), .pointer (some ⟨w.heap.size + 1, 0, none⟩), .pointer (some ⟨w.heap.size + 2, 0, none⟩)]) (by simp) (by simp [go_sem]) ?_
    refine (catch_gone w.heap.size er 0 w3 HRS3.out).mono ?_
    rintro e1 u' w'' ⟨rfl, rfl, rfl⟩
    have HRF := HRS3.out.laid (.int .i64 0) (.slice none 0 0) (.int .i64 er) (.int .i64 0)
    have HBF := below_laid HB3.out (Nat.le_refl _) (.int .i64 0) (.slice none 0 0) (.int .i64 er) (.int .i64 0)
    generalize laid w3 w.heap.size (.int .i64 0) (.slice none 0 0) (.int .i64 er) (.int .i64 0) = wf at *
    have q0 := HRF.1.one.1
    have q1 := HRF.2.1.one.1
    have q2 := HRF.2.2.two.1.1
    have q3 := HRF.2.2.two.2.1
    have HPOST : Hid (ParseIs s w (.returned (.tuple #[.int .i64 0, .slice none 0 0, .agg #[.int .i64 er, .int .i64 0]])) wf.drew) := ⟨HBF.drew, .inr ⟨er, 0, HNZ.out, rfl, HBAD.out⟩⟩
    simp [Leaves, settle, results, Tryd.results45, go_sem, q0, q1, q2, q3]
    exact HPOST.out
  have HRS3 := Lib.hid (HRS2.out.below hb3)
  have HB3 := Lib.hid (HB2.out.trans (hb3.mono HB2.out.size))
  have HGP3 := Lib.hid (HGP2.out.below hb3)
  have HOK := Lib.hid h1
  clear hb3 h1
  obtain ⟨x0, z0⟩ := HRS3.out.1.one
  obtain ⟨x1, z1⟩ := HRS3.out.2.1.one
  obtain ⟨⟨x2, z2⟩, x3, z3⟩ := HRS3.out.2.2.two
  go_wp2_with fail
  go_region
  go_wp2_with fail
  refine leaves_cons (f := 57) (args := #[.pointer (some ⟨w.heap.size, 0, none⟩), .pointer (some ⟨w.heap.size + 1, 0, none⟩), .pointer (some ⟨w.heap.size + 2, 0, none⟩)]) (by simp) (by simp [go_sem]) ?_
  refine (catch_idle ⟨w.heap.size, 0, none⟩ ⟨w.heap.size + 1, 0, none⟩ ⟨w.heap.size + 2, 0, none⟩ _).mono ?_
  rintro e1 u' w'' ⟨rfl, rfl, rfl⟩
  have HRF := HRS3.out.laid (.int .i64 day) (.slice xa c xc) (.int .i64 0) (.int .i64 0)
  have HBF := below_laid HB3.out (Nat.le_refl _) (.int .i64 day) (.slice xa c xc) (.int .i64 0) (.int .i64 0)
  have HGF := HGP3.out.laid (p := w.heap.size) (by omega) (.int .i64 day) (.slice xa c xc) (.int .i64 0) (.int .i64 0)
  have hlaid : (((w3.setCell ⟨w.heap.size, 0, none⟩ (.int .i64 day)).setCell ⟨w.heap.size + 1, 0, none⟩ (.slice xa c xc)).setCell ⟨w.heap.size + 2, 0, none⟩ (.int .i64 0)).setCell ⟨w.heap.size + 2, 1, none⟩ (.int .i64 0) = laid w3 w.heap.size (.int .i64 day) (.slice xa c xc) (.int .i64 0) (.int .i64 0) := rfl
  rw [hlaid]
  generalize laid w3 w.heap.size (.int .i64 day) (.slice xa c xc) (.int .i64 0) (.int .i64 0) = wf at *
  have q0 := HRF.1.one.1
  have q1 := HRF.2.1.one.1
  have q2 := HRF.2.2.two.1.1
  have q3 := HRF.2.2.two.2.1
  have HPOST : Hid (ParseIs s w (.returned (.tuple #[.int .i64 day, .slice xa c xc, .agg #[.int .i64 0, .int .i64 0]])) wf.drew) := ⟨HBF.drew, .inl ⟨c, _, HFORM.out, by rw [HDY.out]; exact HOK.out, by rw [HDY.out], (HGF.below (Below.refl _ _).drew).mono (by omega)⟩⟩
  simp [Leaves, settle, results, Tryd.results45, go_sem, q0, q1, q2, q3]
  exact HPOST.out
theorem Parse_any (s : ByteArray) (w : World) (ht : Tab w) (hs : s.size ≤ 9223372036854775807) :
    Calls Tryd.prog 21 #[.string s] w fun e w' => ParseIs s w e w' := by
  have HB0 := Lib.hid ((Below.refl w.heap.size w).alloc (Nat.le_refl _) (.cells #[.int .i64 0, .int .i64 0] 38))
  have HP := Lib.hid (parse_any s (w.alloc (.cells #[.int .i64 0, .int .i64 0] 38)) (ht.below HB0.out) hs)
  have HO := Lib.hid (OB.made w #[.int .i64 0, .int .i64 0] 38)
  clear ht
  go_enter Tryd.func21, Tryd.ntmps21
  go_wp2_with fail
  refine HP.out.mono ?_
  rintro e w1 ⟨hb, h⟩
  have HB1 := Lib.hid (HB0.out.trans (hb.mono HB0.out.size))
  have HO1 := Lib.hid (HO.out.below hb)
  clear hb
  obtain ⟨⟨x0, z0⟩, x1, z1⟩ := HO1.out.two
  have HB2 : Hid (∀ f a, Below w.heap.size w ((w1.setCell ⟨w.heap.size, 0, none⟩ f).setCell ⟨w.heap.size, 1, none⟩ a)) := fun f a => (HB1.out.setCell (p := ⟨w.heap.size, 0, none⟩) (Nat.le_refl _) f).setCell (p := ⟨w.heap.size, 1, none⟩) (Nat.le_refl _) a
  have HO2 : Hid (∀ f a, OB ((w1.setCell ⟨w.heap.size, 0, none⟩ f).setCell ⟨w.heap.size, 1, none⟩ a) w.heap.size #[f, a] 38) := fun f a => (HO1.out.set 0 f).set 1 a
  rcases h with ⟨c, v, h1, h2, rfl, h4⟩ | ⟨er, a, h1, rfl, h3⟩
  · obtain ⟨xa, xc, hv, _⟩ := h4.slice
    have HF := Lib.hid h1
    have HC := Lib.hid h2
    have HG := Lib.hid (((h4.set (p := w.heap.size) (by simp) 0 (.int .i64 0)).set (p := w.heap.size) (by simp) 1 (.int .i64 0)).mono (B' := w.heap.size) (by simp))
    clear h1 h2 h4
    obtain ⟨day, hday⟩ : ∃ day, dayT s = day := ⟨_, rfl⟩
    have HDY := Lib.hid hday
    rw [hday]
    clear hday
    subst hv
    go_wp2_with fail
    have HB3 := HB2.out (.int .i64 0) (.int .i64 0)
    have q := (HO2.out (.int .i64 0) (.int .i64 0)).two
    have q0 := q.1.1
    have q1 := q.2.1
    clear x0 x1 z0 z1 q
    generalize (w1.setCell ⟨w.heap.size, 0, none⟩ (.int .i64 0)).setCell ⟨w.heap.size, 1, none⟩ (.int .i64 0) = wf at *
    have HPOST : Hid (ParseIs s w (.returned (.tuple #[.int .i64 day, .slice xa (lnsOf s c).length xc, .agg #[.int .i64 0, .int .i64 0]])) wf) := ⟨HB3, .inl ⟨c, _, HF.out, HC.out, by rw [HDY.out], HG.out⟩⟩
    refine bodyPost_ret (v := .tuple #[.int .i64 day, .slice xa (lnsOf s c).length xc, .agg #[.int .i64 0, .int .i64 0]]) (by simp [results, Tryd.results21, go_sem, q0, q1]) rfl HPOST.out
  · have HF := Lib.hid h1
    have HC := Lib.hid h3
    clear h1 h3
    go_wp2_with fail
    have HB3 := HB2.out (.int .i64 er) (.int .i64 a)
    have q := (HO2.out (.int .i64 er) (.int .i64 a)).two
    have q0 := q.1.1
    have q1 := q.2.1
    clear x0 x1 z0 z1 q
    generalize (w1.setCell ⟨w.heap.size, 0, none⟩ (.int .i64 er)).setCell ⟨w.heap.size, 1, none⟩ (.int .i64 a) = wf at *
    have HPOST : Hid (ParseIs s w (.returned (.tuple #[.int .i64 0, .slice none 0 0, .agg #[.int .i64 er, .int .i64 a]])) wf) := ⟨HB3, .inr ⟨er, a, HF.out, rfl, HC.out⟩⟩
    refine bodyPost_ret (v := .tuple #[.int .i64 0, .slice none 0 0, .agg #[.int .i64 er, .int .i64 a]]) (by simp [results, Tryd.results21, go_sem, q0, q1]) rfl HPOST.out
end Go.Proofs.YtdfgkngfpedgdaaDoor
