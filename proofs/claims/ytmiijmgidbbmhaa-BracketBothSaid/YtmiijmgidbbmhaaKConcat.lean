/-
  Promise G4: the walk of slices.Concat of two lists of brackets.
-/
import Derived.Test.YtmiijmgidbbmhaaKApp
namespace Go.Proofs.Ytmiijmgidbbmhaa
open Go.RowKit

/-- Two slices in a list. -/
def TwoS (w : World) (g : Nat) (a b : Value) : Prop := g < w.heap.size ∧ w.cell? ⟨g, 0, none⟩ = some a ∧ w.cell? ⟨g, 1, none⟩ = some b
theorem TwoS.below {w w' : World} {g : Nat} {a b : Value} (h : TwoS w g a b) (hb : Below w.heap.size w w') : TwoS w' g a b :=
  ⟨Nat.lt_of_lt_of_le h.1 hb.size, (hb.cell (p := ⟨g, 0, none⟩) h.1).trans h.2.1, (hb.cell (p := ⟨g, 1, none⟩) h.1).trans h.2.2⟩
theorem TwoS.low {B : Nat} {w w' : World} {g : Nat} {a b : Value} (h : TwoS w g a b) (hb : Below B w w') (hB : g < B) : TwoS w' g a b :=
  ⟨Nat.lt_of_lt_of_le h.1 hb.size, (hb.cell (p := ⟨g, 0, none⟩) hB).trans h.2.1, (hb.cell (p := ⟨g, 1, none⟩) hB).trans h.2.2⟩
set_option maxRecDepth 100000 in
set_option maxHeartbeats 1000000 in
theorem concat_any (g b1 o1 n1 c1 b2 o2 n2 c2 : Nat) (l m : List Bk) (w : World) (hg : TwoS w g (.slice (some ⟨b1, o1, none⟩) n1 c1) (.slice (some ⟨b2, o2, none⟩) n2 c2)) (h1 : BAt w b1 o1 l) (h2 : BAt w b2 o2 m) (e1 : l.length = n1) (e2 : m.length = n2) (k1 : 1 ≤ n1) (k1' : n1 ≤ 12) (k2 : 1 ≤ n2) (k2' : n2 ≤ 12) :
    Calls Try.prog 54 #[.slice (some ⟨g, 0, none⟩) 2 2] w fun e w' => ∃ v, e = .returned v ∧ GrowB w' w.heap.size v (l ++ m) ∧ Below w.heap.size w w' := by
  have HG := Lib.hid hg
  have H1 := Lib.hid h1
  have H2 := Lib.hid h2
  obtain ⟨hgl, x0, x1⟩ := hg
  clear h1 h2
  go_enter Try.func54, Try.ntmps54
  go_wp2_with fail
  go_loop [3, 11] (fun z i => (i = .int .i64 0 ∧ z = .int .i64 0) ∨ (i = .int .i64 1 ∧ z = .int .i64 n1) ∨ (i = .int .i64 2 ∧ z = .int .i64 ((n1 : Int) + (n2 : Int)))) (fun _ i => 2 - (intOf i).toNat)
  case atStart => exact .inl ⟨rfl, rfl⟩
  case round =>
    rcases hrel with ⟨rfl, rfl⟩ | ⟨rfl, rfl⟩ | ⟨rfl, rfl⟩
    · have hnn : ¬ ((n1 : Int) < 0) := by omega
      go_wp2_with fail
      go_round
      case rel => exact .inr (.inl ⟨by go_num, by go_num⟩)
      case measure => simp [intOf]
    · have hnn : ¬ ((n1 : Int) + (n2 : Int) < 0) := by omega
      go_wp2_with fail
      go_round
      case rel => exact .inr (.inr ⟨by go_num, by go_num⟩)
      case measure => simp [intOf]
    · go_wp2_with fail
      rw [show (n1 : Int) + (n2 : Int) = ((n1 + n2 : Nat) : Int) by omega]
      refine (grow_nil (n1 + n2) (by omega) (by omega) w).mono ?_
      rintro e w1 ⟨v, rfl, hv, hb⟩
      have HB1 := Lib.hid hb
      have HV := Lib.hid hv
      clear hb hv x0 x1
      obtain ⟨x, c, rfl, _⟩ := HV.out.slice
      go_wp2_with fail
      go_loopw [6, 27] (fun z i wr => ((i = .int .i64 0 ∧ GrowB wr w.heap.size z []) ∨ (i = .int .i64 1 ∧ GrowB wr w.heap.size z l) ∨ (i = .int .i64 2 ∧ GrowB wr w.heap.size z (l ++ m))) ∧ Below w.heap.size w wr) (fun _ i _ => 2 - (intOf i).toNat)
      case atStart => exact ⟨.inl ⟨rfl, HV.out⟩, HB1.out⟩
      case round =>
        obtain ⟨hcase, hbr⟩ := hrel
        have HBR := Lib.hid hbr
        obtain ⟨_, x0, x1⟩ := HG.out.below hbr
        have HS1 := Lib.hid (H1.out.below hbr H1.out.1)
        have HS2 := Lib.hid (H2.out.below hbr H2.out.1)
        clear hbr
        rcases hcase with ⟨rfl, hv⟩ | ⟨rfl, hv⟩ | ⟨rfl, hv⟩
        · have HVR := Lib.hid hv
          obtain ⟨y, cy, rfl, _⟩ := hv.slice
          clear hv
          go_wp2_with (at_builtin; refine wpList_app_bks _ rfl _ _ rfl w.heap.size _ [] rfl HVR.out b1 o1 n1 c1 l rfl HS1.out e1 ?hbd ?hB ?_; rotate_right; intro v9 w9 hg9 hb9 _ _; refine Hid.out ?_)
          case hbd => simp; omega
          case hB => exact HBR.out.size
          have HG9 := Lib.hid hg9
          have HB9 := Lib.hid (HBR.out.trans hb9)
          clear hg9 hb9
          refine Lib.hid ?_
          go_wp2_with fail
          go_roundw
          case rel => exact ⟨.inr (.inl ⟨by go_num, by simpa using HG9.out⟩), HB9.out⟩
          case measure => simp [intOf]
        · have HVR := Lib.hid hv
          obtain ⟨y, cy, rfl, _⟩ := hv.slice
          clear hv
          go_wp2_with (at_builtin; refine wpList_app_bks _ rfl _ _ rfl w.heap.size _ l rfl HVR.out b2 o2 n2 c2 m rfl HS2.out e2 ?hbd ?hB ?_; rotate_right; intro v9 w9 hg9 hb9 _ _; refine Hid.out ?_)
          case hbd => omega
          case hB => exact HBR.out.size
          have HG9 := Lib.hid hg9
          have HB9 := Lib.hid (HBR.out.trans hb9)
          clear hg9 hb9
          refine Lib.hid ?_
          go_wp2_with fail
          go_roundw
          case rel => exact ⟨.inr (.inr ⟨by go_num, HG9.out⟩), HB9.out⟩
          case measure => simp [intOf]
        · have HVR := Lib.hid hv
          obtain ⟨y, cy, rfl, _⟩ := hv.slice
          clear hv
          go_wp2_with fail
          go_ret
          exact ⟨_, rfl, HVR.out, HBR.out⟩
end Go.Proofs.Ytmiijmgidbbmhaa
