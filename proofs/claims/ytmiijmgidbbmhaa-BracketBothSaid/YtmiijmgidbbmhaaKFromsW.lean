/-
  Promise G4: the walk of allFroms.
-/
import Derived.Test.YtmiijmgidbbmhaaKFroms
import Derived.Test.YtmiijmgidbbmhaaShelf
import Derived.Test.YtmiijmgidbbmhaaMInts
import Derived.Sort.OwnSortedInts
import Derived.Lib.OwnBridge
import Derived.Lib.RowBridge
namespace Go.Proofs.Ytmiijmgidbbmhaa
open Go.RowKit

theorem GrowI.open {w : World} {B : Nat} {x : Option Addr} {n c : Nat} {l : List Int} (h : GrowI w B (.slice x n c) l) (hl : 0 < l.length) : ∃ g cur, x = some ⟨g, 0, none⟩ ∧ n = l.length ∧ l.length ≤ c ∧ B ≤ g ∧ g < w.heap.size ∧ w.heap[g]? = some (.cells cur 3 (0, 0)) ∧ Sort.Holds (Value.int .i64) w g 0 l.toArray := by
  have hlt := h.lt
  rcases h.2 with ⟨_, h2⟩ | ⟨g, cap, cur, h1, h2, h3, h4, h5, h6, h7⟩
  · omega
  · injection h1 with e1 e2 e3
    subst e1 e2 e3
    refine ⟨g, cur, rfl, rfl, h4, h2, (hlt g rfl).2, h3, ?_⟩
    refine holds_of_blockI h3 ?_
    simpa using h7
theorem GrowI.form {w : World} {B : Nat} {v : Value} {l : List Int} (h : GrowI w B v l) : ∃ x c, v = .slice x l.length c := by
  rcases h.2 with ⟨h1, h2⟩ | ⟨g, cap, cur, h1, _⟩
  · exact ⟨none, 0, by rw [h1, h2]⟩
  · exact ⟨_, cap, h1⟩
theorem frm_nth (l : List Bk) {j : Nat} (hj : j < l.length) : l[j].frm = (bnth l j).frm := by
  simp [bnth, List.getD_eq_getElem?_getD, hj]
theorem take_frm (l : List Bk) {k : Nat} (hk : k < l.length) : (l.take (k + 1)).map Bk.frm = (l.take k).map Bk.frm ++ [(bnth l k).frm] := by
  rw [List.take_succ_eq_append_getElem hk, List.map_append, List.map_cons, List.map_nil, frm_nth l hk]
set_option maxRecDepth 100000 in
set_option maxHeartbeats 1000000 in
theorem allFroms_any (b1 o1 n1 c1 b2 o2 n2 c2 : Nat) (l m : List Bk) (w : World) (h1 : BAt w b1 o1 l) (h2 : BAt w b2 o2 m) (e1 : l.length = n1) (e2 : m.length = n2) (k1 : 1 ≤ n1) (k1' : n1 ≤ 12) (k2 : 1 ≤ n2) (k2' : n2 ≤ 12) :
    Calls Try.prog 49 #[.slice (some ⟨b1, o1, none⟩) n1 c1, .slice (some ⟨b2, o2, none⟩) n2 c2] w fun e w' => ∃ g c, e = .returned (.slice (some ⟨g, 0, none⟩) (fromsL l m).length c) ∧ At w' g 0 (fromsL l m) ∧ w.heap.size ≤ g ∧ Below w.heap.size w w' := by
  have H1 := Lib.hid h1
  have H2 := Lib.hid h2
  clear h1 h2
  have hmk := make_ints (n1 + n2) (by omega) w
  rw [show ((n1 + n2 : Nat) : Int) = (n1 : Int) + (n2 : Int) by omega] at hmk
  go_enter Try.func49, Try.ntmps49
  go_wp2_with fail
  clear hmk
  have HGI0 : Hid (GrowI (w.alloc (.cells (madeCells #[.int .i64 0] (n1 + n2)) 3)) w.heap.size (.slice (some ⟨w.heap.size, 0, none⟩) 0 (n1 + n2)) []) := World.ownsRow_made (w := w) _ (n1 + n2) (Nat.le_refl _) (by unfold maxLen; omega) (by rw [size_madeCells]; omega)
  have HB0 := Lib.hid (kbelow_box w (.cells (madeCells #[.int .i64 0] (n1 + n2)) 3))
  have hs0 : (w.alloc (.cells (madeCells #[.int .i64 0] (n1 + n2)) 3)).heap.size = w.heap.size + 1 := by simp
  generalize w.alloc (.cells (madeCells #[.int .i64 0] (n1 + n2)) 3) = W at *
  have HBW := Lib.hid (HB0.out.alloc HB0.out.size (.cells #[.slice (some ⟨b1, o1, none⟩) n1 c1, .slice (some ⟨b2, o2, none⟩) n2 c2] 22))
  refine (concat_any (w.heap.size + 1) b1 o1 n1 c1 b2 o2 n2 c2 l m _ ⟨by simp [hs0], by simp [← hs0], by simp [← hs0]⟩ (H1.out.below HBW.out H1.out.1) (H2.out.below HBW.out H2.out.1) e1 e2 k1 k1' k2 k2').mono ?_
  rintro e w1 ⟨v, rfl, hv, hb⟩
  have HGI1 := Lib.hid ((HGI0.out.alloc (.cells #[.slice (some ⟨b1, o1, none⟩) n1 c1, .slice (some ⟨b2, o2, none⟩) n2 c2] 22)).below hb)
  have HB1 := Lib.hid (HBW.out.trans (hb.mono HBW.out.size))
  have hsz1 := hb.size
  simp only [World.size_alloc, hs0] at hsz1 hv
  rcases hv.form with ⟨_, h⟩ | ⟨gv, cv, rfl, hgv, hat⟩
  · exfalso
    have h' : (l ++ m).length = 0 := by rw [h]; rfl
    rw [List.length_append] at h'
    omega
  have HAT := Lib.hid hat
  have hlen : (l ++ m).length = n1 + n2 := by rw [List.length_append]; omega
  generalize hC : l ++ m = C at *
  clear hb hv hat HGI0
  rw [hlen]
  go_wp2_with fail
  go_loopw [5, 19] (fun z i wr => ∃ k : Nat, k ≤ n1 + n2 ∧ i = .int .i64 k ∧ GrowI wr w.heap.size z ((C.take k).map Bk.frm) ∧ z.ownBlock ≠ some gv ∧ BAt wr gv 0 C ∧ Below w.heap.size w wr) (fun _ i _ => n1 + n2 - (intOf i).toNat)
  case atStart => exact ⟨0, by omega, rfl, HGI1.out, by simp [Value.ownBlock]; omega, HAT.out, HB1.out⟩
  case round =>
    obtain ⟨k, hk, rfl, hz, hne, hbat, hbr⟩ := hrel
    obtain ⟨x, c, rfl⟩ := hz.form
    have HZ := Lib.hid hz
    have HBA := Lib.hid hbat
    have HBR := Lib.hid hbr
    have hlt0 := hz.lt
    clear hz hbat hbr
    by_cases hlt : k < n1 + n2
    · have hlt' : (k : Int) < (n1 : Int) + (n2 : Int) := by omega
      have hlt2 : (k : Int) < ((n1 + n2 : Nat) : Int) := by omega
      obtain ⟨x0, x1⟩ := HBA.out.2 k (by omega)
      rw [Nat.zero_add] at x0 x1
      have HT := Lib.hid (take_frm C (k := k) (by omega))
      have htl : (List.map Bk.frm (C.take k)).length = k := by rw [List.length_map, List.length_take]; omega
      have hgw : gv < wr.heap.size := HBA.out.1
      generalize (bnth C k).frm = fr at *
      generalize (bnth C k).rate = rt at *
      go_wp2_with (at_builtin; refine wpList_app_int _ rfl _ _ rfl w.heap.size _ ((C.take k).map Bk.frm) rfl ?hgw (wr.heap.size + 1) 1 fr rfl ?hcm ?hbd ?hB ?_; rotate_right; intro v9 w9 hg9 hb9 hgr9 hob9; refine Hid.out ?_)
      case hgw => exact (HZ.out.alloc _).alloc _
      case hcm => simp
      case hbd => rw [htl]; omega
      case hB => have := HBR.out.size; simp; omega
      have HG9 := Lib.hid hg9
      have HB9 := Lib.hid (((HBR.out.alloc HBR.out.size _).alloc (by have := HBR.out.size; simp; omega) _).trans hb9)
      have HBA9 : Hid (BAt w9 gv 0 C) := by
        refine ⟨Nat.lt_of_lt_of_le hgw (Nat.le_trans (by simp; omega) hgr9.size), fun j hj => ?_⟩
        have hB' := (HBA.out.below ((Below.refl _ _).alloc (Nat.le_refl _) (.cells #[.int .i64 fr, .int .i64 rt] 43)) HBA.out.1)
        have hB2 := (hB'.below ((Below.refl _ _).alloc (Nat.le_refl _) (.cells #[.int .i64 fr] 3)) hB'.1)
        exact ⟨hgr9.cell (hB2.2 j hj).1 (fun e => hne e.symm), hgr9.cell (hB2.2 j hj).2 (fun e => hne e.symm)⟩
      have HNE : Hid (v9.ownBlock ≠ some gv) := by
        unfold Hid
        rcases hob9 with e | e
        · rw [e]; exact hne
        · rw [e]
          intro h
          injection h with h
          simp at h
          omega
      clear hg9 hb9 hgr9 hob9
      refine Lib.hid ?_
      go_wp2_with fail
      go_roundw
      case rel => exact ⟨k + 1, by omega, by go_num, by rw [HT.out]; exact HG9.out, HNE.out, HBA9.out, HB9.out⟩
      case measure => simp [intOf]; omega
    · obtain rfl : k = n1 + n2 := by omega
      have hnl : ¬ ((n1 : Int) + (n2 : Int) < (n1 : Int) + (n2 : Int)) := by omega
      have hta : C.take (n1 + n2) = C := List.take_of_length_le (by omega)
      rw [hta] at HZ
      have hzl : (C.map Bk.frm).length = n1 + n2 := by rw [List.length_map]; omega
      rw [hta, hzl]
      obtain ⟨g, cur, rfl, hn, hcap, hgB, hgs, hcur, hH⟩ := HZ.out.open (by omega)
      have HH := Lib.hid hH
      have HCur := Lib.hid hcur
      have hFl : (sortI (C.map Bk.frm)).length = (C.map Bk.frm).length := List.length_mergeSort _
      have HF : Hid (fromsL l m = Lib.compact (sortI (C.map Bk.frm))) := by unfold Hid fromsL; rw [← List.map_append, hC]
      clear hH hcur hn
      go_wp2_with fail
      rw [← hzl]
      refine (sh_slices_Sort_int g 0 c (C.map Bk.frm) wr HH.out hgs (by omega)).mono ?_
      rintro e w2 ⟨rfl, q, os, hw2⟩
      have HW2 := Lib.hid hw2
      have HB2 : Hid (Below w.heap.size w w2) := by
        unfold Hid
        rw [hw2]
        exact HBR.out.grown (grownBy_sortedI _) HBR.out.size (fun j hj => by cases hj; exact hgB)
      have HH2 : Hid (Sort.Holds (Value.int .i64) w2 g 0 (sortI (C.map Bk.frm)).toArray) := by
        unfold Hid
        rw [hw2]
        exact Sort.holds_grow _ _ os g 0 _ (by simpa [Sort.putRow, Sort.mapBlock, Sort.ahead] using hgs) (Sort.holds_putRow _ _ g 0 _ _ (Sort.holds_ahead _ wr q g 0 _ HH.out) (by simp))
      have hgs2 : g < w2.heap.size := by
        rw [hw2]
        simp [Sort.grow, Sort.putRow, Sort.mapBlock, Sort.ahead]
        omega
      clear hw2
      go_wp2_with fail
      rw [← hzl, ← hFl]
      refine (sh_slices_Compact_int g 0 c (sortI (C.map Bk.frm)) w2 HH2.out (by omega) (by omega)).mono ?_
      rintro e w3 ⟨rfl, q3, hw3⟩
      have HB3 : Hid (Below w.heap.size w w3) := by
        unfold Hid
        rw [hw3]
        exact Lib.below_putRow HB2.out hgB
      have hcl := Lib.compact_length_le (sortI (C.map Bk.frm))
      have HAt : Hid (At w3 g 0 (Lib.compact (sortI (C.map Bk.frm)))) := by
        have hH3 := Sort.holds_putRow (Value.int .i64) (Sort.ahead w2 q3) g 0 _ (Lib.compact (sortI (C.map Bk.frm)) ++ List.replicate ((sortI (C.map Bk.frm)).length - (Lib.compact (sortI (C.map Bk.frm))).length) 0).toArray (Sort.holds_ahead _ w2 q3 g 0 _ HH2.out) (by simp; omega)
        refine ⟨by rw [hw3]; simp [Sort.ahead]; exact hgs2, fun j hj => ?_⟩
        rw [hw3]
        have := (hH3 j (by simp; omega)).1
        rw [this]
        simp [nth, List.getD_eq_getElem?_getD, hj, List.getElem_append_left hj, show j < (Lib.compact (sortI (C.map Bk.frm))).length + ((sortI (C.map Bk.frm)).length - (Lib.compact (sortI (C.map Bk.frm))).length) by omega]
      clear hw3
      go_wp2_with fail
      go_ret
      refine ⟨g, c, ?_, ?_, hgB, HB3.out⟩
      · rw [HF.out]
        rfl
      · rw [HF.out]; exact HAt.out
end Go.Proofs.Ytmiijmgidbbmhaa
