/-
  Promise G4: the walk of Both.
-/
import Derived.Test.YtmiijmgidbbmhaaKBothM
namespace Go.Proofs.Ytmiijmgidbbmhaa
open Go.RowKit

theorem high_any (f r : Int) (w : World) :
    Calls Try.prog 41 #[.agg #[.int .i64 f, .int .i64 r]] w fun e w' => e = .returned (.bool (decide (10000 < r))) ∧ w' = w.alloc (.cells #[.int .i64 f, .int .i64 r] 43) := by
  go_enter Try.func41, Try.ntmps41
  go_wp2_with fail
  go_ret
  exact ⟨rfl, rfl⟩
theorem highB_of {l : List Bk} (h : ∀ j, j < l.length → decide (10000 < (bnth l j).rate) = false) : highB l = false := by
  unfold highB
  rw [List.any_eq_false]
  intro x hx
  obtain ⟨j, hj, rfl⟩ := List.mem_iff_getElem.1 hx
  have := h j hj
  simpa [bnth, List.getD_eq_getElem?_getD, hj] using this
theorem highB_yes {l : List Bk} {j : Nat} (hj : j < l.length) (h : decide (10000 < (bnth l j).rate) = true) : highB l = true := by
  cases e : highB l
  · have := highB_nth e hj
    have h' := of_decide_eq_true h
    omega
  · rfl
set_option maxRecDepth 100000 in
set_option maxHeartbeats 1000000 in
theorem indexH_any (a : Option Addr) (n cap : Nat) (l : List Bk) (w : World) (hc : CameB w a l) (hn : l.length = n) (hm : n ≤ maxLen) :
    Calls Try.prog 45 #[.slice a n cap, .func (.func 41) #[] #[]] w fun e w' => ∃ i : Int, e = .returned (.int .i64 i) ∧ -1 ≤ i ∧ (i = -1 ↔ highB l = false) ∧ Below w.heap.size w w' := by
  have hm' : n ≤ 9223372036854775807 := by unfold maxLen at hm; omega
  have HO := Lib.hid (fun h0 => hc.open hn h0)
  clear hm hc
  go_enter Try.func45, Try.ntmps45
  go_wp2_with fail
  go_loopw [8] (fun i wr => ∃ k : Nat, k ≤ n ∧ i = .int .i64 k ∧ (∀ j, j < k → decide (10000 < (bnth l j).rate) = false) ∧ Below w.heap.size w wr) (fun i _ => n - (intOf i).toNat)
  case atStart => exact ⟨0, Nat.zero_le _, rfl, fun j hj => by omega, Below.refl _ _⟩
  case round =>
    obtain ⟨k, hk, rfl, hall, hb⟩ := hrel
    have HA := Lib.hid hall
    have HB := Lib.hid hb
    clear hall hb
    by_cases hlt : k < n
    · have hlt' : (k : Int) < (n : Int) := by omega
      obtain ⟨b, off, rfl, hcell⟩ := HO.out (by omega)
      obtain ⟨x0, x1⟩ := hcell wr HB.out k hlt
      clear hcell
      cases hr : decide (10000 < (bnth l k).rate)
      · go_wp2_with fail
        refine (high_any _ _ _).mono ?_
        rintro e w' ⟨rfl, h'⟩
        subst w'
        rw [hr]
        go_wp2_with fail
        go_roundw
        case rel =>
          refine ⟨k + 1, by omega, by go_num, ?_, HB.out.alloc HB.out.size _⟩
          intro j hj
          by_cases e : j = k
          · subst e; exact hr
          · exact HA.out j (by omega)
        case measure => simp [intOf]; omega
      · have HE := Lib.hid (highB_yes (l := l) (j := k) (by omega) hr)
        go_wp2_with fail
        refine (high_any _ _ _).mono ?_
        rintro e w' ⟨rfl, h'⟩
        subst w'
        rw [hr]
        go_wp2_with fail
        go_ret
        exact ⟨k, rfl, by omega, ⟨fun h => by omega, fun h => by rw [HE.out] at h; cases h⟩, HB.out.alloc HB.out.size _⟩
    · have hkn : k = n := by omega
      subst hkn
      have HL := Lib.hid (highB_of (l := l) (fun j hj => HA.out j (by omega)))
      go_wp2_with fail
      go_ret
      exact ⟨-1, rfl, by omega, ⟨fun _ => HL.out, fun _ => rfl⟩, HB.out⟩
set_option maxHeartbeats 1000000 in
theorem containsH_any (a : Option Addr) (n cap : Nat) (l : List Bk) (w : World) (hc : CameB w a l) (hn : l.length = n) (hm : n ≤ maxLen) :
    Calls Try.prog 28 #[.slice a n cap, .func (.func 41) #[] #[]] w fun e w' => e = .returned (.bool (highB l)) ∧ Below w.heap.size w w' := by
  have HC := Lib.hid hc
  have HM := Lib.hid hm
  clear hc hm
  go_enter Try.func28, Try.ntmps28
  go_wp2_with fail
  refine (indexH_any a n cap l _ HC.out hn HM.out).mono ?_
  rintro e w1 ⟨i, rfl, hi, hall, hb⟩
  have HB := Lib.hid hb
  clear hb
  have HR : Hid (highB l = decide (0 ≤ i)) := by
    unfold Hid
    cases h : highB l
    · obtain rfl := hall.2 h
      simp
    · rw [h] at hall
      have : i ≠ -1 := fun e => by have := hall.1 e; cases this
      simp; omega
  clear hall
  go_wp2_with fail
  go_ret
  exact ⟨kret_bool (by rw [HR.out]), HB.out⟩
/-- Which error two tables have. -/
def ErrIs (s : ByteArray) (l : List Bk) (t : ByteArray) (m : List Bk) (er : Int) : Prop :=
  (tblE s l ≠ 0 ∧ er = tblE s l) ∨ (tblE s l = 0 ∧ tblE t m ≠ 0 ∧ er = tblE t m) ∨ (tblE s l = 0 ∧ tblE t m = 0 ∧ ((highB (bothL l m) = true ∧ er = 3) ∨ (highB (bothL l m) = false ∧ 12 < (bothL l m).length ∧ er = 2)))
/-- What Both answers. -/
def BothIs (w' : World) (B : Nat) (s : ByteArray) (l : List Bk) (t : ByteArray) (m : List Bk) (r : ByteArray) (v : Value) (er : Int) : Prop :=
  (er ≠ 0 ∧ r = ⟨#[]⟩ ∧ v = .slice none 0 0 ∧ ErrIs s l t m er) ∨
  (er = 0 ∧ r = s ∧ tblE s l = 0 ∧ tblE t m = 0 ∧ highB (bothL l m) = false ∧ (bothL l m).length ≤ 12 ∧ GrowB w' B v (bothL l m))
/-- The result's cells. -/
def RBox (w : World) (g : Nat) : Prop := g < w.heap.size ∧ (w.cell? ⟨g, 0, none⟩ = some (.string (⟨#[]⟩ : ByteArray)) ∧ w.frozen? ⟨g, 0, none⟩ = false) ∧ (w.cell? ⟨g, 1, none⟩ = some (.slice none 0 0) ∧ w.frozen? ⟨g, 1, none⟩ = false)
theorem RBox.made (w : World) (T : TypeId) : RBox (w.alloc (.cells #[.string (⟨#[]⟩ : ByteArray), .slice none 0 0] T)) w.heap.size := by
  refine ⟨?_, ⟨?_, ?_⟩, ⟨?_, ?_⟩⟩ <;> simp
theorem RBox.below {w w' : World} {g : Nat} (h : RBox w g) (hb : Below w.heap.size w w') : RBox w' g :=
  ⟨Nat.lt_of_lt_of_le h.1 hb.size, ⟨(hb.cell (p := ⟨g, 0, none⟩) h.1).trans h.2.1.1, (hb.frozen (p := ⟨g, 0, none⟩) h.1).trans h.2.1.2⟩, ⟨(hb.cell (p := ⟨g, 1, none⟩) h.1).trans h.2.2.1, (hb.frozen (p := ⟨g, 1, none⟩) h.1).trans h.2.2.2⟩⟩
theorem RBox.put {w : World} {g : Nat} (h : RBox w g) (r : ByteArray) (v : Value) : ((w.setCell ⟨g, 0, none⟩ (.string r)).setCell ⟨g, 1, none⟩ v).cell? ⟨g, 0, none⟩ = some (.string r) ∧ ((w.setCell ⟨g, 0, none⟩ (.string r)).setCell ⟨g, 1, none⟩ v).cell? ⟨g, 1, none⟩ = some v := by
  refine ⟨?_, ?_⟩
  · rw [World.cell?_setCell_other (h := fun e => by injection e; omega)]
    exact World.cell?_setCell_same _ _ _ h.2.1.1
  · exact World.cell?_setCell_same _ _ _ ((World.cell?_setCell_other _ _ _ _ (fun e => by injection e; omega)).trans h.2.2.1)
theorem GrowB.put {w : World} {B : Nat} {v : Value} {l : List Bk} (h : GrowB w B v l) {a : Addr} (ha : a.block < B) (u : Value) : GrowB (w.setCell a u) B v l := ownsRow_setCell_below h ha u
set_option maxRecDepth 100000 in
set_option maxHeartbeats 2000000 in
theorem Both_any (s : ByteArray) (a : Option Addr) (n cap : Nat) (l : List Bk) (t : ByteArray) (b : Option Addr) (n' cap' : Nat) (m : List Bk) (w : World) (hc : CameB w a l) (hn : l.length = n) (hm : n ≤ maxLen) (hc' : CameB w b m) (hn' : m.length = n') (hm' : n' ≤ maxLen) :
    Calls Try.prog 22 #[.agg #[.string s, .slice a n cap], .agg #[.string t, .slice b n' cap']] w fun e w' => ∃ r v er, e = .returned (.tuple #[.agg #[.string r, v], .int .i64 er]) ∧ BothIs w' w.heap.size s l t m r v er ∧ Below w.heap.size w w' := by
  have HC := Lib.hid hc
  have HM := Lib.hid hm
  have HC' := Lib.hid hc'
  have HM' := Lib.hid hm'
  clear hm hc hm' hc'
  have hz1 : (w.alloc (.cells #[.string s, .slice a n cap] 24)).heap.size = w.heap.size + 1 := by simp
  have hz2 : ((w.alloc (.cells #[.string s, .slice a n cap] 24)).alloc (.cells #[.string t, .slice b n' cap'] 24)).heap.size = w.heap.size + 2 := by simp
  have hT1 := TIs.made w s a n cap 24
  have hU2 := TIs.made (w.alloc (.cells #[.string s, .slice a n cap] 24)) t b n' cap' 24
  have hR3 := RBox.made ((w.alloc (.cells #[.string s, .slice a n cap] 24)).alloc (.cells #[.string t, .slice b n' cap'] 24)) 24
  rw [hz1] at hU2
  rw [hz2] at hR3
  have hT2 := hT1.below (kbelow_box _ (.cells #[.string t, .slice b n' cap'] 24)) hT1.1
  have HT0 := Lib.hid (hT2.below (kbelow_box _ (.cells #[.string (⟨#[]⟩ : ByteArray), .slice none 0 0] 24)) hT2.1)
  have HU0 := Lib.hid (hU2.below (kbelow_box _ (.cells #[.string (⟨#[]⟩ : ByteArray), .slice none 0 0] 24)) hU2.1)
  have HR0 := Lib.hid hR3
  have HB0 := Lib.hid (((kbelow_box w (.cells #[.string s, .slice a n cap] 24)).alloc (kbelow_box w (.cells #[.string s, .slice a n cap] 24)).size (.cells #[.string t, .slice b n' cap'] 24)).alloc (by rw [hz2]; omega) (.cells #[.string (⟨#[]⟩ : ByteArray), .slice none 0 0] 24))
  clear hT1 hT2 hU2 hR3 hz1 hz2
  go_enter Try.func22, Try.ntmps22
  go_wp2_with fail
  generalize (((w.alloc (.cells #[.string s, .slice a n cap] 24)).alloc (.cells #[.string t, .slice b n' cap'] 24)).alloc (.cells #[.string (⟨#[]⟩ : ByteArray), .slice none 0 0] 24)) = W at *
  refine (Check_any s a n cap l _ (HC.out.below HB0.out) hn HM.out).mono ?_
  rintro e w1 ⟨rfl, hb⟩
  have HB1 := Lib.hid (HB0.out.trans (hb.mono HB0.out.size))
  have HT1 := Lib.hid (HT0.out.below hb HT0.out.1)
  have HU1 := Lib.hid (HU0.out.below hb HU0.out.1)
  have HR1 := Lib.hid (HR0.out.below hb)
  clear hb
  by_cases h0 : tblE s l = 0
  · rw [h0]
    obtain ⟨_, y0, y1⟩ := HU1.out
    go_wp2_with fail
    refine (Check_any t b n' cap' m _ (HC'.out.below HB1.out) hn' HM'.out).mono ?_
    rintro e w2 ⟨rfl, hb⟩
    have HB2 := Lib.hid (HB1.out.trans (hb.mono HB1.out.size))
    have HT2 := Lib.hid (HT1.out.below hb HT1.out.1)
    have HU2 := Lib.hid (HU1.out.below hb HU1.out.1)
    have HR2 := Lib.hid (HR1.out.below hb)
    clear hb y0 y1
    by_cases h1 : tblE t m = 0
    · rw [h1]
      have HL := Lib.hid (tblE_ok h0).2
      have HMr := Lib.hid (tblE_ok h1).2
      obtain ⟨_, x0, x1⟩ := HT2.out
      obtain ⟨_, y0, y1⟩ := HU2.out
      rcases (HC.out.below HB2.out) with h | ⟨b1, o1, rfl, hA⟩
      · have := HL.out.1; omega
      rcases (HC'.out.below HB2.out) with h | ⟨b2, o2, rfl, hA'⟩
      · have := HMr.out.1; omega
      go_wp2_with fail
      refine (together_any b1 o1 n cap b2 o2 n' cap' l m _ hA hA' hn hn' HL.out HMr.out).mono ?_
      rintro e w3 ⟨v, rfl, hG, hb⟩
      have HB3 := Lib.hid (HB2.out.trans (hb.mono HB2.out.size))
      have HT3 := Lib.hid (HT2.out.below hb HT2.out.1)
      have HR3 := Lib.hid (HR2.out.below hb)
      have hs2 : w.heap.size + 3 ≤ w2.heap.size := by have := HR2.out.1; omega
      obtain ⟨x, c, rfl, hCm⟩ := hG.slice
      have HG := Lib.hid hG
      have HBL := Lib.hid (both_len l m)
      have hfl := froms_len l m
      have hl12 := HL.out.2.1
      have hm12 := HMr.out.2.1
      clear hb x0 x1 y0 y1 hA hA'
      go_wp2_with fail
      refine (containsH_any x _ c (bothL l m) _ hCm rfl (by have := HBL.out; unfold maxLen; omega)).mono ?_
      rintro e w4 ⟨rfl, hb⟩
      have HB4 := Lib.hid (HB3.out.trans (hb.mono HB3.out.size))
      have HT4 := Lib.hid (HT3.out.below hb HT3.out.1)
      have HR4 := Lib.hid (HR3.out.below hb)
      have HG4 := Lib.hid (HG.out.below hb)
      clear hb hCm hG
      obtain ⟨_, x0, x1⟩ := HT4.out
      obtain ⟨_, ⟨q0, q1⟩, q2, q3⟩ := HR4.out
      cases hh : highB (bothL l m)
      · by_cases h12 : 12 < (bothL l m).length
        · have h12' : (12 : Int) < ((bothL l m).length : Int) := by omega
          have HE : Hid (ErrIs s l t m 2) := .inr (.inr ⟨h0, h1, .inr ⟨hh, h12, rfl⟩⟩)
          have HN0 : Hid ((2 : Int) ≠ 0) := by unfold Hid; omega
          go_wp2_with fail
          refine bodyPost_ret (v := .tuple #[.agg #[.string (⟨#[]⟩ : ByteArray), .slice none 0 0], .int .i64 (2)]) ?_ rfl ⟨_, _, _, rfl, .inl ⟨HN0.out, rfl, rfl, HE.out⟩, ?_⟩
          · obtain ⟨p0, p1⟩ := RBox.put HR4.out (⟨#[]⟩ : ByteArray) (.slice none 0 0)
            simp [results, Try.results22, go_sem, p0, p1]
          · exact (HB4.out.setCell (by show w.heap.size ≤ w.heap.size + 2; omega) _).setCell (by show w.heap.size ≤ w.heap.size + 2; omega) _
        · have h12' : decide ((12 : Int) < ((bothL l m).length : Int)) = false := decide_eq_false (by omega)
          have h12N : decide (12 < (bothL l m).length) = false := decide_eq_false h12
          go_wp2_with fail
          refine bodyPost_ret (v := .tuple #[.agg #[.string s, .slice x (bothL l m).length c], .int .i64 0]) ?_ rfl ⟨_, _, _, rfl, .inr ⟨rfl, rfl, h0, h1, hh, by omega, ?_⟩, ?_⟩
          · obtain ⟨p0, p1⟩ := RBox.put HR4.out s (.slice x (bothL l m).length c)
            simp [results, Try.results22, go_sem, p0, p1]
          · exact ((HG4.out.put (by simp; omega) _).put (by simp; omega) _).mono (by omega)
          · exact (HB4.out.setCell (by show w.heap.size ≤ w.heap.size + 2; omega) _).setCell (by show w.heap.size ≤ w.heap.size + 2; omega) _
      · have HE : Hid (ErrIs s l t m 3) := .inr (.inr ⟨h0, h1, .inl ⟨hh, rfl⟩⟩)
        have HN0 : Hid ((3 : Int) ≠ 0) := by unfold Hid; omega
        go_wp2_with fail
        refine bodyPost_ret (v := .tuple #[.agg #[.string (⟨#[]⟩ : ByteArray), .slice none 0 0], .int .i64 (3)]) ?_ rfl ⟨_, _, _, rfl, .inl ⟨HN0.out, rfl, rfl, HE.out⟩, ?_⟩
        · obtain ⟨p0, p1⟩ := RBox.put HR4.out (⟨#[]⟩ : ByteArray) (.slice none 0 0)
          simp [results, Try.results22, go_sem, p0, p1]
        · exact (HB4.out.setCell (by show w.heap.size ≤ w.heap.size + 2; omega) _).setCell (by show w.heap.size ≤ w.heap.size + 2; omega) _
    · have HE : Hid (ErrIs s l t m (tblE t m)) := .inr (.inl ⟨h0, h1, rfl⟩)
      have HN0 : Hid (tblE t m ≠ 0) := h1
      have h1N : (tblE t m != 0) = true := by simp [h1]
      have h1B : decide (tblE t m = 0) = false := decide_eq_false h1
      obtain ⟨_, ⟨q0, q1⟩, q2, q3⟩ := HR2.out
      go_wp2_with fail
      refine bodyPost_ret (v := .tuple #[.agg #[.string (⟨#[]⟩ : ByteArray), .slice none 0 0], .int .i64 (tblE t m)]) ?_ rfl ⟨_, _, _, rfl, .inl ⟨HN0.out, rfl, rfl, HE.out⟩, ?_⟩
      · obtain ⟨p0, p1⟩ := RBox.put HR2.out (⟨#[]⟩ : ByteArray) (.slice none 0 0)
        simp [results, Try.results22, go_sem, p0, p1]
      · exact (HB2.out.setCell (by show w.heap.size ≤ w.heap.size + 2; omega) _).setCell (by show w.heap.size ≤ w.heap.size + 2; omega) _
  · have HE : Hid (ErrIs s l t m (tblE s l)) := .inl ⟨h0, rfl⟩
    have HN0 : Hid (tblE s l ≠ 0) := h0
    have h0N : (tblE s l != 0) = true := by simp [h0]
    have h0B : decide (tblE s l = 0) = false := decide_eq_false h0
    obtain ⟨_, ⟨q0, q1⟩, q2, q3⟩ := HR1.out
    go_wp2_with fail
    refine bodyPost_ret (v := .tuple #[.agg #[.string (⟨#[]⟩ : ByteArray), .slice none 0 0], .int .i64 (tblE s l)]) ?_ rfl ⟨_, _, _, rfl, .inl ⟨HN0.out, rfl, rfl, HE.out⟩, ?_⟩
    · obtain ⟨p0, p1⟩ := RBox.put HR1.out (⟨#[]⟩ : ByteArray) (.slice none 0 0)
      simp [results, Try.results22, go_sem, p0, p1]
    · exact (HB1.out.setCell (by show w.heap.size ≤ w.heap.size + 2; omega) _).setCell (by show w.heap.size ≤ w.heap.size + 2; omega) _
end Go.Proofs.Ytmiijmgidbbmhaa
