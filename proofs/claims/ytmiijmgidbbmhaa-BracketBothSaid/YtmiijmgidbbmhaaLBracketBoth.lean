/-
  The walk of the law BracketBoth: it answers true at every two tables.
-/
import Derived.Test.YtmiijmgidbbmhaaKRefBW
import Derived.Test.YtmiijmgidbbmhaaKSame
import Derived.Test.YtmiijmgidbbmhaaKTblR
import Derived.Test.YtmiijmgidbbmhaaKBegun
namespace Go.Proofs.Ytmiijmgidbbmhaa
open Go.RowKit

theorem OBox.both {w : World} {g : Nat} {s : ByteArray} {v : Value} (h : OBox w g s v) (r : ByteArray) (u : Value) : OBox ((w.setCell ⟨g, 0, none⟩ (.string r)).setCell ⟨g, 1, none⟩ u) g r u := by
  refine ⟨by simp; exact h.1, ⟨?_, by rw [World.frozen?_setCell, World.frozen?_setCell]; exact h.2.1.2⟩, ⟨?_, by rw [World.frozen?_setCell, World.frozen?_setCell]; exact h.2.2.2⟩⟩
  · rw [World.cell?_setCell_other (h := fun e => by injection e; omega)]
    exact World.cell?_setCell_same _ _ _ h.2.1.1
  · exact World.cell?_setCell_same _ _ _ ((World.cell?_setCell_other _ _ _ _ (fun e => by injection e; omega)).trans h.2.2.1)
theorem TIs.away {w : World} {b : Nat} {s : ByteArray} {a : Option Addr} {n cap : Nat} (h : TIs w b s a n cap) {g o : Nat} (hg : b ≠ g) (u : Value) : TIs (w.setCell ⟨g, o, none⟩ u) b s a n cap := by
  refine ⟨by simp; exact h.1, ?_, ?_⟩
  · rw [World.cell?_setCell_other (h := fun e => by injection e; omega)]; exact h.2.1
  · rw [World.cell?_setCell_other (h := fun e => by injection e; omega)]; exact h.2.2
theorem CameB.away {w : World} {x : Option Addr} {l : List Bk} (h : CameB w x l) {g o : Nat} (hg : ∀ b off, x = some ⟨b, off, none⟩ → b ≠ g) (u : Value) : CameB (w.setCell ⟨g, o, none⟩ u) x l := by
  rcases h with h | ⟨b, off, rfl, h⟩
  · exact .inl h
  · have hne := hg b off rfl
    refine .inr ⟨b, off, rfl, by simp; exact h.1, fun j hj => ⟨?_, ?_⟩⟩
    · rw [World.cell?_setCell_other (h := fun e => by injection e; omega)]; exact (h.2 j hj).1
    · rw [World.cell?_setCell_other (h := fun e => by injection e; omega)]; exact (h.2 j hj).2
theorem GrowB.blk {w : World} {B k c : Nat} {x : Option Addr} {l : List Bk} (h : GrowB w B (.slice x k c) l) : ∀ b off, x = some ⟨b, off, none⟩ → B ≤ b ∧ b < w.heap.size := by
  rintro b off rfl
  rcases h.form with ⟨h', _⟩ | ⟨g, c', h', hB, hA⟩
  · cases h'
  · cases h'
    exact ⟨hB, hA.1⟩
set_option maxRecDepth 100000 in
set_option maxHeartbeats 4000000 in
theorem walk_bracketBoth (s : ByteArray) (hs : s.size ≤ 9223372036854775807) (a : Option Addr) (n cap : Nat) (l : List Bk) {w : World} (hcw : CameB w a l) (hn : l.length = n) (hm : n ≤ maxLen) (t : ByteArray) (ht : t.size ≤ 9223372036854775807) (b : Option Addr) (n' cap' : Nat) (m : List Bk) (hcw' : CameB w b m) (hn' : m.length = n') (hm' : n' ≤ maxLen) :
    Calls Try.prog 7 #[.agg #[.string s, .slice a n cap], .agg #[.string t, .slice b n' cap']] w fun e w' => e = .returned (.bool true) ∧ Below w.heap.size w w' := by
  have HC := Lib.hid hcw
  have HM := Lib.hid hm
  have HC' := Lib.hid hcw'
  have HM' := Lib.hid hm'
  clear hm hcw hm' hcw'
  have hz1 : (w.alloc (.cells #[.string s, .slice a n cap] 24)).heap.size = w.heap.size + 1 := by simp
  have hT1 := TIs.made w s a n cap 24
  have hU2 := TIs.made (w.alloc (.cells #[.string s, .slice a n cap] 24)) t b n' cap' 24
  rw [hz1] at hU2
  have HT0 := Lib.hid (hT1.below (kbelow_box _ (.cells #[.string t, .slice b n' cap'] 24)) hT1.1)
  have HU0 := Lib.hid hU2
  have HB0 := Lib.hid ((kbelow_box w (.cells #[.string s, .slice a n cap] 24)).alloc (kbelow_box w (.cells #[.string s, .slice a n cap] 24)).size (.cells #[.string t, .slice b n' cap'] 24))
  clear hT1 hU2 hz1
  go_enter Try.func7, Try.ntmps7
  obtain ⟨_, x0, x1⟩ := HT0.out
  obtain ⟨_, y0, y1⟩ := HU0.out
  go_wp2_with fail
  generalize ((w.alloc (.cells #[.string s, .slice a n cap] 24)).alloc (.cells #[.string t, .slice b n' cap'] 24)) = W at *
  refine (Both_any s a n cap l t b n' cap' m _ (HC.out.below HB0.out) hn HM.out (HC'.out.below HB0.out) hn' HM'.out).mono ?_
  rintro e w1 ⟨r, v, er, rfl, hBo, hb⟩
  have HB1 := Lib.hid (HB0.out.trans (hb.mono HB0.out.size))
  have HT1 := Lib.hid (HT0.out.below hb HT0.out.1)
  have HU1 := Lib.hid (HU0.out.below hb HU0.out.1)
  clear hb x0 x1 y0 y1
  rcases hBo with ⟨he, rfl, rfl, hE⟩ | ⟨rfl, rfl, h0, h1, hh, h12, hG⟩
  · have H51 := Lib.hid (TIs.made w1 ⟨#[]⟩ none 0 0 24)
    have HB1a := Lib.hid (HB1.out.alloc HB1.out.size (.cells #[.string ⟨#[]⟩, .slice none 0 0] 24))
    have HT1a := Lib.hid (HT1.out.below (kbelow_box w1 (.cells #[.string ⟨#[]⟩, .slice none 0 0] 24)) HT1.out.1)
    have HU1a := Lib.hid (HU1.out.below (kbelow_box w1 (.cells #[.string ⟨#[]⟩, .slice none 0 0] 24)) HU1.out.1)
    obtain ⟨_, x0, x1⟩ := HT1a.out
    go_wp2_with fail
    generalize (w1.alloc (.cells #[.string ⟨#[]⟩, .slice none 0 0] 24)) = W1 at *
    refine (check_ref s a n cap l _ hs (HC.out.below HB1a.out) hn HM.out).mono ?_
    rintro e w2 ⟨rfl, hb⟩
    have HB2 := Lib.hid (HB1a.out.trans (hb.mono HB1a.out.size))
    have HT2 := Lib.hid (HT1a.out.below hb HT1a.out.1)
    have HU2 := Lib.hid (HU1a.out.below hb HU1a.out.1)
    have H52 := Lib.hid (H51.out.below hb H51.out.1)
    clear hb x0 x1
    rcases hE with ⟨h0, rfl⟩ | ⟨h0, h1, rfl⟩ | ⟨h0, h1, hE⟩
    · have h0N : (tblE s l == 0) = false := by simp [h0]
      have h0B : decide (tblE s l = 0) = false := decide_eq_false h0
      go_wp2_with fail
      have H8a := Lib.hid (OBox.made w2 ⟨#[]⟩ (.slice none 0 0) 24)
      have HBa := Lib.hid (HB2.out.alloc HB2.out.size (.cells #[.string ⟨#[]⟩, .slice none 0 0] 24))
      have H5a := Lib.hid (H52.out.below (kbelow_box w2 (.cells #[.string ⟨#[]⟩, .slice none 0 0] 24)) H52.out.1)
      refine (begun_any _).mono ?_
      rintro e wF ⟨rfl, hb⟩
      have HBF := Lib.hid (HBa.out.trans (hb.mono HBa.out.size))
      have H5F := Lib.hid (H5a.out.below hb H5a.out.1)
      have H8F := Lib.hid (H8a.out.below hb H8a.out.1)
      have HXF := Lib.hid (CameB.below ((.inl rfl : CameB _ none [])) hb)
      have HYF := Lib.hid (CameB.below ((.inl rfl : CameB _ none [])) hb)
      clear hb
      obtain ⟨_, z0, z1⟩ := H5F.out
      obtain ⟨_, ⟨o0, _⟩, o1, _⟩ := H8F.out
      go_wp2_with fail
      refine (sameTable_yes ⟨#[]⟩ none none 0 0 0 [] _ HXF.out HYF.out rfl (by omega)).mono ?_
      rintro e wG ⟨rfl, hb⟩
      have HBG := Lib.hid (HBF.out.trans (hb.mono HBF.out.size))
      clear hb
      go_wp2_with fail
      go_ret
      exact ⟨kret_bool (by simp), HBG.out⟩
    · rw [h0]
      have H8a := Lib.hid (OBox.made w2 ⟨#[]⟩ (.slice none 0 0) 24)
      have HBa := Lib.hid (HB2.out.alloc HB2.out.size (.cells #[.string ⟨#[]⟩, .slice none 0 0] 24))
      have H5a := Lib.hid (H52.out.below (kbelow_box w2 (.cells #[.string ⟨#[]⟩, .slice none 0 0] 24)) H52.out.1)
      have HTa := Lib.hid (HT2.out.below (kbelow_box w2 (.cells #[.string ⟨#[]⟩, .slice none 0 0] 24)) HT2.out.1)
      have HUa := Lib.hid (HU2.out.below (kbelow_box w2 (.cells #[.string ⟨#[]⟩, .slice none 0 0] 24)) HU2.out.1)
      have hB52 : w1.heap.size < w2.heap.size := H52.out.1
      obtain ⟨_, y0, y1⟩ := HUa.out
      go_wp2_with fail
      have HBx2 := Lib.hid (kbelow_box w2 (.cells #[.string ⟨#[]⟩, .slice none 0 0] 24))
      generalize (w2.alloc (.cells #[.string ⟨#[]⟩, .slice none 0 0] 24)) = W2 at *
      refine (check_ref t b n' cap' m _ ht (HC'.out.below HBa.out) hn' HM'.out).mono ?_
      rintro e w3 ⟨rfl, hb⟩
      have HB3 := Lib.hid (HBa.out.trans (hb.mono HBa.out.size))
      have HT3 := Lib.hid (HTa.out.below hb HTa.out.1)
      have HU3 := Lib.hid (HUa.out.below hb HUa.out.1)
      have H53 := Lib.hid (H5a.out.below hb H5a.out.1)
      have H83 := Lib.hid (H8a.out.below hb H8a.out.1)
      have HBx3 := Lib.hid (HBx2.out.trans (hb.mono HBx2.out.size))
      clear hb y0 y1
      have h1N : (tblE t m == 0) = false := by simp [h1]
      have h1B : decide (tblE t m = 0) = false := decide_eq_false h1
      go_wp2_with fail
      refine (begun_any _).mono ?_
      rintro e wF ⟨rfl, hb⟩
      have HBF := Lib.hid (HB3.out.trans (hb.mono HB3.out.size))
      have H5F := Lib.hid (H53.out.below hb H53.out.1)
      have H8F := Lib.hid (H83.out.below hb H83.out.1)
      have HXF := Lib.hid (CameB.below ((.inl rfl : CameB _ none [])) hb)
      have HYF := Lib.hid (CameB.below ((.inl rfl : CameB _ none [])) hb)
      clear hb
      obtain ⟨_, z0, z1⟩ := H5F.out
      obtain ⟨_, ⟨o0, _⟩, o1, _⟩ := H8F.out
      go_wp2_with fail
      refine (sameTable_yes ⟨#[]⟩ none none 0 0 0 [] _ HXF.out HYF.out rfl (by omega)).mono ?_
      rintro e wG ⟨rfl, hb⟩
      have HBG := Lib.hid (HBF.out.trans (hb.mono HBF.out.size))
      clear hb
      go_wp2_with fail
      go_ret
      exact ⟨kret_bool (by simp), HBG.out⟩
    · rw [h0]
      have H8a := Lib.hid (OBox.made w2 ⟨#[]⟩ (.slice none 0 0) 24)
      have HBa := Lib.hid (HB2.out.alloc HB2.out.size (.cells #[.string ⟨#[]⟩, .slice none 0 0] 24))
      have H5a := Lib.hid (H52.out.below (kbelow_box w2 (.cells #[.string ⟨#[]⟩, .slice none 0 0] 24)) H52.out.1)
      have HTa := Lib.hid (HT2.out.below (kbelow_box w2 (.cells #[.string ⟨#[]⟩, .slice none 0 0] 24)) HT2.out.1)
      have HUa := Lib.hid (HU2.out.below (kbelow_box w2 (.cells #[.string ⟨#[]⟩, .slice none 0 0] 24)) HU2.out.1)
      have hB52 : w1.heap.size < w2.heap.size := H52.out.1
      obtain ⟨_, y0, y1⟩ := HUa.out
      go_wp2_with fail
      have HBx2 := Lib.hid (kbelow_box w2 (.cells #[.string ⟨#[]⟩, .slice none 0 0] 24))
      generalize (w2.alloc (.cells #[.string ⟨#[]⟩, .slice none 0 0] 24)) = W2 at *
      refine (check_ref t b n' cap' m _ ht (HC'.out.below HBa.out) hn' HM'.out).mono ?_
      rintro e w3 ⟨rfl, hb⟩
      have HB3 := Lib.hid (HBa.out.trans (hb.mono HBa.out.size))
      have HT3 := Lib.hid (HTa.out.below hb HTa.out.1)
      have HU3 := Lib.hid (HUa.out.below hb HUa.out.1)
      have H53 := Lib.hid (H5a.out.below hb H5a.out.1)
      have H83 := Lib.hid (H8a.out.below hb H8a.out.1)
      have HBx3 := Lib.hid (HBx2.out.trans (hb.mono HBx2.out.size))
      clear hb y0 y1
      rw [h1]
      have hL := (tblE_ok h0).2
      have hMr := (tblE_ok h1).2
      obtain ⟨_, x0, x1⟩ := HT3.out
      obtain ⟨_, y0, y1⟩ := HU3.out
      rcases (HC.out.below HB3.out) with h | ⟨b1, o1, rfl, hA⟩
      · have := hL.1; omega
      rcases (HC'.out.below HB3.out) with h | ⟨b2, o2, rfl, hA'⟩
      · have := hMr.1; omega
      go_wp2_with fail
      refine (bothTables_ref s b1 o1 n cap l t b2 o2 n' cap' m _ hA hA' hn hn' hL hMr).mono ?_
      rintro e w4 ⟨r', v', er', rfl, hRf, hb⟩
      have HB4 := Lib.hid (HB3.out.trans (hb.mono HB3.out.size))
      have H54 := Lib.hid (H53.out.below hb H53.out.1)
      have H84 := Lib.hid (H83.out.below hb H83.out.1)
      have HBx4 := Lib.hid (HBx3.out.trans (hb.mono HBx3.out.size))
      have hs34 : w2.heap.size < w3.heap.size := H83.out.1
      clear hb x0 x1 y0 y1 hA hA'
      obtain ⟨_, ⟨o0, o1'⟩, o2', o3⟩ := H84.out
      rcases hE with ⟨hh, rfl⟩ | ⟨hh, h12, rfl⟩
      · rcases hRf with ⟨g0, rfl, rfl, rfl⟩ | ⟨g0, _⟩ | ⟨g0, _⟩
        · go_wp2_with fail
          have H85 := Lib.hid (H84.out.both ⟨#[]⟩ (.slice none 0 0))
          have H55 := Lib.hid ((H54.out.away (g := w2.heap.size) (o := 0) (by omega) (.string ⟨#[]⟩)).away (g := w2.heap.size) (o := 1) (by omega) (.slice none 0 0))
          have HB5 := Lib.hid ((HB4.out.setCell (p := ⟨w2.heap.size, 0, none⟩) (by have := HB2.out.size; show w.heap.size ≤ w2.heap.size; omega) (.string ⟨#[]⟩)).setCell (p := ⟨w2.heap.size, 1, none⟩) (by have := HB2.out.size; show w.heap.size ≤ w2.heap.size; omega) (.slice none 0 0))
          refine (begun_any _).mono ?_
          rintro e wF ⟨rfl, hb⟩
          have HBF := Lib.hid (HB5.out.trans (hb.mono HB5.out.size))
          have H5F := Lib.hid (H55.out.below hb H55.out.1)
          have H8F := Lib.hid (H85.out.below hb H85.out.1)
          have HXF := Lib.hid (CameB.below ((.inl rfl : CameB _ none [])) hb)
          have HYF := Lib.hid (CameB.below ((.inl rfl : CameB _ none [])) hb)
          clear hb
          obtain ⟨_, z0, z1⟩ := H5F.out
          obtain ⟨_, ⟨o0, _⟩, o1, _⟩ := H8F.out
          go_wp2_with fail
          refine (sameTable_yes ⟨#[]⟩ none none 0 0 0 [] _ HXF.out HYF.out rfl (by omega)).mono ?_
          rintro e wG ⟨rfl, hb⟩
          have HBG := Lib.hid (HBF.out.trans (hb.mono HBF.out.size))
          clear hb
          go_wp2_with fail
          go_ret
          exact ⟨kret_bool (by simp), HBG.out⟩
        · rw [hh] at g0; cases g0
        · rw [hh] at g0; cases g0
      · rcases hRf with ⟨g0, _⟩ | ⟨g0, _, rfl, rfl, rfl⟩ | ⟨g0, g1, _⟩
        · rw [hh] at g0; cases g0
        · go_wp2_with fail
          have H85 := Lib.hid (H84.out.both ⟨#[]⟩ (.slice none 0 0))
          have H55 := Lib.hid ((H54.out.away (g := w2.heap.size) (o := 0) (by omega) (.string ⟨#[]⟩)).away (g := w2.heap.size) (o := 1) (by omega) (.slice none 0 0))
          have HB5 := Lib.hid ((HB4.out.setCell (p := ⟨w2.heap.size, 0, none⟩) (by have := HB2.out.size; show w.heap.size ≤ w2.heap.size; omega) (.string ⟨#[]⟩)).setCell (p := ⟨w2.heap.size, 1, none⟩) (by have := HB2.out.size; show w.heap.size ≤ w2.heap.size; omega) (.slice none 0 0))
          refine (begun_any _).mono ?_
          rintro e wF ⟨rfl, hb⟩
          have HBF := Lib.hid (HB5.out.trans (hb.mono HB5.out.size))
          have H5F := Lib.hid (H55.out.below hb H55.out.1)
          have H8F := Lib.hid (H85.out.below hb H85.out.1)
          have HXF := Lib.hid (CameB.below ((.inl rfl : CameB _ none [])) hb)
          have HYF := Lib.hid (CameB.below ((.inl rfl : CameB _ none [])) hb)
          clear hb
          obtain ⟨_, z0, z1⟩ := H5F.out
          obtain ⟨_, ⟨o0, _⟩, o1, _⟩ := H8F.out
          go_wp2_with fail
          refine (sameTable_yes ⟨#[]⟩ none none 0 0 0 [] _ HXF.out HYF.out rfl (by omega)).mono ?_
          rintro e wG ⟨rfl, hb⟩
          have HBG := Lib.hid (HBF.out.trans (hb.mono HBF.out.size))
          clear hb
          go_wp2_with fail
          go_ret
          exact ⟨kret_bool (by simp), HBG.out⟩
        · omega
  · obtain ⟨x, c, rfl, hCm⟩ := hG.slice
    have hxb : ∀ b0 off, x = some ⟨b0, off, none⟩ → b0 < w1.heap.size := fun b0 off e => (hG.blk b0 off e).2
    have hRt := both_right (tblE_ok h0).2 (tblE_ok h1).2 hh h12
    obtain ⟨k, hk⟩ : ∃ k, (bothL l m).length = k := ⟨_, rfl⟩
    rw [hk] at h12 ⊢
    have HK := Lib.hid hk
    have HCm := Lib.hid hCm
    clear hk hCm hG
    have H51 := Lib.hid (TIs.made w1 r x k c 24)
    have HB1a := Lib.hid (HB1.out.alloc HB1.out.size (.cells #[.string r, .slice x k c] 24))
    have HT1a := Lib.hid (HT1.out.below (kbelow_box w1 (.cells #[.string r, .slice x k c] 24)) HT1.out.1)
    have HU1a := Lib.hid (HU1.out.below (kbelow_box w1 (.cells #[.string r, .slice x k c] 24)) HU1.out.1)
    have HC1a := Lib.hid (HCm.out.below (kbelow_box w1 (.cells #[.string r, .slice x k c] 24)))
    obtain ⟨_, x0, x1⟩ := HT1a.out
    go_wp2_with fail
    generalize (w1.alloc (.cells #[.string r, .slice x k c] 24)) = W1 at *
    refine (check_ref r a n cap l _ hs (HC.out.below HB1a.out) hn HM.out).mono ?_
    rintro e w2 ⟨rfl, hb⟩
    have HB2 := Lib.hid (HB1a.out.trans (hb.mono HB1a.out.size))
    have HT2 := Lib.hid (HT1a.out.below hb HT1a.out.1)
    have HU2 := Lib.hid (HU1a.out.below hb HU1a.out.1)
    have H52 := Lib.hid (H51.out.below hb H51.out.1)
    have HC2 := Lib.hid (HC1a.out.below hb)
    clear hb x0 x1
    rw [h0]
    have H8a := Lib.hid (OBox.made w2 ⟨#[]⟩ (.slice none 0 0) 24)
    have HBa := Lib.hid (HB2.out.alloc HB2.out.size (.cells #[.string ⟨#[]⟩, .slice none 0 0] 24))
    have H5a := Lib.hid (H52.out.below (kbelow_box w2 (.cells #[.string ⟨#[]⟩, .slice none 0 0] 24)) H52.out.1)
    have HTa := Lib.hid (HT2.out.below (kbelow_box w2 (.cells #[.string ⟨#[]⟩, .slice none 0 0] 24)) HT2.out.1)
    have HUa := Lib.hid (HU2.out.below (kbelow_box w2 (.cells #[.string ⟨#[]⟩, .slice none 0 0] 24)) HU2.out.1)
    have hB52 : w1.heap.size < w2.heap.size := H52.out.1
    obtain ⟨_, y0, y1⟩ := HUa.out
    go_wp2_with fail
    have HBx2 := Lib.hid (kbelow_box w2 (.cells #[.string ⟨#[]⟩, .slice none 0 0] 24))
    generalize (w2.alloc (.cells #[.string ⟨#[]⟩, .slice none 0 0] 24)) = W2 at *
    refine (check_ref t b n' cap' m _ ht (HC'.out.below HBa.out) hn' HM'.out).mono ?_
    rintro e w3 ⟨rfl, hb⟩
    have HB3 := Lib.hid (HBa.out.trans (hb.mono HBa.out.size))
    have HT3 := Lib.hid (HTa.out.below hb HTa.out.1)
    have HU3 := Lib.hid (HUa.out.below hb HUa.out.1)
    have H53 := Lib.hid (H5a.out.below hb H5a.out.1)
    have H83 := Lib.hid (H8a.out.below hb H8a.out.1)
    have HBx3 := Lib.hid (HBx2.out.trans (hb.mono HBx2.out.size))
    clear hb y0 y1
    rw [h1]
    have hL := (tblE_ok h0).2
    have hMr := (tblE_ok h1).2
    obtain ⟨_, x0, x1⟩ := HT3.out
    obtain ⟨_, y0, y1⟩ := HU3.out
    rcases (HC.out.below HB3.out) with h | ⟨b1, o1, rfl, hA⟩
    · have := hL.1; omega
    rcases (HC'.out.below HB3.out) with h | ⟨b2, o2, rfl, hA'⟩
    · have := hMr.1; omega
    go_wp2_with fail
    refine (bothTables_ref r b1 o1 n cap l t b2 o2 n' cap' m _ hA hA' hn hn' hL hMr).mono ?_
    rintro e w4 ⟨r', v', er', rfl, hRf, hb⟩
    have HB4 := Lib.hid (HB3.out.trans (hb.mono HB3.out.size))
    have H54 := Lib.hid (H53.out.below hb H53.out.1)
    have H84 := Lib.hid (H83.out.below hb H83.out.1)
    have HBx4 := Lib.hid (HBx3.out.trans (hb.mono HBx3.out.size))
    have hs34 : w2.heap.size < w3.heap.size := H83.out.1
    clear hb x0 x1 y0 y1 hA hA'
    obtain ⟨_, ⟨o0, o1'⟩, o2', o3⟩ := H84.out
    rcases hRf with ⟨g0, _⟩ | ⟨_, g0, _⟩ | ⟨_, _, rfl, rfl, hG'⟩
    · rw [hh] at g0; cases g0
    · have := HK.out; omega
    · obtain ⟨y, c', rfl, hY⟩ := hG'.slice
      have hyb := hG'.blk
      rw [HK.out]
      have HX4 := Lib.hid (HC2.out.below HBx4.out)
      have HY4 := Lib.hid hY
      clear hY hG'
      go_wp2_with fail
      have H85 := Lib.hid (H84.out.both r' (.slice y k c'))
      have H55 := Lib.hid ((H54.out.away (g := w2.heap.size) (o := 0) (by omega) (.string r')).away (g := w2.heap.size) (o := 1) (by omega) (.slice y k c'))
      have HX5 := Lib.hid ((HX4.out.away (g := w2.heap.size) (o := 0) (fun b0 off e => by have := hxb b0 off e; omega) (.string r')).away (g := w2.heap.size) (o := 1) (fun b0 off e => by have := hxb b0 off e; omega) (.slice y k c'))
      have HY5 := Lib.hid ((HY4.out.away (g := w2.heap.size) (o := 0) (fun b0 off e => by have := hyb b0 off e; omega) (.string r')).away (g := w2.heap.size) (o := 1) (fun b0 off e => by have := hyb b0 off e; omega) (.slice y k c'))
      have HB5 := Lib.hid ((HB4.out.setCell (p := ⟨w2.heap.size, 0, none⟩) (by have := HB2.out.size; show w.heap.size ≤ w2.heap.size; omega) (.string r')).setCell (p := ⟨w2.heap.size, 1, none⟩) (by have := HB2.out.size; show w.heap.size ≤ w2.heap.size; omega) (.slice y k c'))
      refine (begun_any _).mono ?_
      rintro e wF ⟨rfl, hb⟩
      have HBF := Lib.hid (HB5.out.trans (hb.mono HB5.out.size))
      have H5F := Lib.hid (H55.out.below hb H55.out.1)
      have H8F := Lib.hid (H85.out.below hb H85.out.1)
      have HXF := Lib.hid (CameB.below (HX5.out) hb)
      have HYF := Lib.hid (CameB.below (HY5.out) hb)
      clear hb
      obtain ⟨_, z0, z1⟩ := H5F.out
      obtain ⟨_, ⟨o0, _⟩, o1, _⟩ := H8F.out
      go_wp2_with fail
      refine (sameTable_yes r' x y k c c' (bothL l m) _ HXF.out HYF.out HK.out (by omega)).mono ?_
      rintro e wG ⟨rfl, hb⟩
      have HBG := Lib.hid (HBF.out.trans (hb.mono HBF.out.size))
      clear hb
      go_wp2_with fail
      go_ret
      exact ⟨kret_bool (by simp), HBG.out⟩
end Go.Proofs.Ytmiijmgidbbmhaa
