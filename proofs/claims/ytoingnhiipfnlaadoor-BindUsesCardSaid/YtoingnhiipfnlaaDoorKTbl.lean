/-
  Promise G1: what is wrong with a table; walks of Check and of the reference's CheckTable.
-/
import Derived.Test.YtoingnhiipfnlaaDoorKCheck
namespace Go.Proofs.YtoingnhiipfnlaaDoor
open Go.RowKit

instance (s : ByteArray) : Decidable (NameP s) := by unfold NameP; infer_instance
/-- What is wrong with a table. -/
def tblE (s : ByteArray) (l : List Bk) : Int := if ¬ NameP s then 1 else if l.length < 1 ∨ 12 < l.length then 2 else if bksB l = false then 3 else if (bnth l 0).frm ≠ 0 ∨ upB l = false then 4 else 0
theorem tblE_name {s : ByteArray} {l : List Bk} (h : ¬ NameP s) : tblE s l = 1 := by unfold tblE; rw [if_pos h]
theorem tblE_many {s : ByteArray} {l : List Bk} (h : NameP s) (h2 : l.length < 1 ∨ 12 < l.length) : tblE s l = 2 := by unfold tblE; rw [if_neg (by simpa using h), if_pos h2]
theorem tblE_range {s : ByteArray} {l : List Bk} (h : NameP s) (h2 : ¬ (l.length < 1 ∨ 12 < l.length)) (h3 : bksB l = false) : tblE s l = 3 := by unfold tblE; rw [if_neg (by simpa using h), if_neg h2, if_pos h3]
theorem tblE_state {s : ByteArray} {l : List Bk} (h : NameP s) (h2 : ¬ (l.length < 1 ∨ 12 < l.length)) (h3 : bksB l = true) (h4 : (bnth l 0).frm ≠ 0 ∨ upB l = false) : tblE s l = 4 := by unfold tblE; rw [if_neg (by simpa using h), if_neg h2, if_neg (by simp [h3]), if_pos h4]
theorem tblE_yes {s : ByteArray} {l : List Bk} (h : NameP s) (h2 : ¬ (l.length < 1 ∨ 12 < l.length)) (h3 : bksB l = true) (h4 : (bnth l 0).frm = 0) (h5 : upB l = true) : tblE s l = 0 := by unfold tblE; rw [if_neg (by simpa using h), if_neg h2, if_neg (by simp [h3]), if_neg (by simp [h4, h5])]
theorem tblE_bd (s : ByteArray) (l : List Bk) : 0 ≤ tblE s l ∧ tblE s l ≤ 4 := by
  unfold tblE
  (repeat' split) <;> omega
/-- A list of brackets that is right. -/
def Right (l : List Bk) : Prop := 1 ≤ l.length ∧ l.length ≤ 12 ∧ bksB l = true ∧ (bnth l 0).frm = 0 ∧ upB l = true
theorem tblE_ok {s : ByteArray} {l : List Bk} (h : tblE s l = 0) : NameP s ∧ Right l := by
  unfold tblE at h
  split at h
  · cases h
  · split at h
    · cases h
    · split at h
      · cases h
      · split at h
        · cases h
        · rename_i h1 h2 h3 h4
          refine ⟨by simpa using h1, by omega, by omega, by simpa using h3, ?_, ?_⟩
          · by_cases e : (bnth l 0).frm = 0
            · exact e
            · exact absurd (.inl e) h4
          · cases e : upB l
            · exact absurd (.inr e) h4
            · rfl
set_option maxRecDepth 100000 in
set_option maxHeartbeats 2000000 in
theorem Check_any (s : ByteArray) (a : Option Addr) (n cap : Nat) (l : List Bk) (w : World) (hc : CameB w a l) (hn : l.length = n) (hm : n ≤ maxLen) :
    Calls Tryd.prog 62 #[.agg #[.string s, .slice a n cap]] w fun e w' => e = .returned (.int .i64 (tblE s l)) ∧ Below w.heap.size w w' := by
  have hm' : n ≤ 9223372036854775807 := by unfold maxLen at hm; omega
  have HC := Lib.hid hc
  have HM := Lib.hid hm
  clear hm hc
  have HB0 := Lib.hid (kbelow_box w (.cells #[.string s, .slice a n cap] 59))
  have HT0 := Lib.hid (TIs.made w s a n cap 59)
  go_enter Tryd.func62, Tryd.ntmps62
  go_wp2_with fail
  refine (IsName_any s _).mono ?_
  rintro e w1 ⟨b, rfl, hb, hbel⟩
  have HB1 := Lib.hid (HB0.out.trans (hbel.mono HB0.out.size))
  have HT1 := Lib.hid (HT0.out.below hbel HT0.out.1)
  have HN := Lib.hid hb
  clear hb hbel HT0 HB0
  obtain ⟨_, x0, x1⟩ := HT1.out
  cases b
  · have HE : Hid (tblE s l = 1) := tblE_name (fun h => by have := HN.out.2 h; cases this)
    go_wp2_with fail
    go_ret
    exact ⟨kret_int (HE.out.symm), HB1.out⟩
  · have HNP := Lib.hid (HN.out.1 rfl)
    clear HN
    by_cases h1 : n < 1
    · have HE : Hid (tblE s l = 2) := tblE_many HNP.out (.inl (by omega))
      obtain rfl : n = 0 := by omega
      go_wp2_with fail
      go_ret
      exact ⟨kret_int (HE.out.symm), HB1.out⟩
    · have h1' : ¬ ((n : Int) < 1) := by omega
      have h1B : decide ((n : Int) < 1) = false := decide_eq_false h1'
      by_cases h2 : 12 < n
      · have HE : Hid (tblE s l = 2) := tblE_many HNP.out (.inr (by omega))
        have h2' : (12 : Int) < (n : Int) := by omega
        go_wp2_with fail
        go_ret
        exact ⟨kret_int (HE.out.symm), HB1.out⟩
      · have h2' : ¬ ((12 : Int) < (n : Int)) := by omega
        have h2B : decide ((12 : Int) < (n : Int)) = false := decide_eq_false h2'
        have HL : Hid (¬ (l.length < 1 ∨ 12 < l.length)) := by unfold Hid; omega
        go_wp2_with fail
        refine (contains_any a n cap l _ (HC.out.below HB1.out) hn HM.out).mono ?_
        rintro e w2 ⟨rfl, hb2⟩
        have HB2 := Lib.hid (HB1.out.trans (hb2.mono HB1.out.size))
        have HT2 := Lib.hid (HT1.out.below hb2 HT1.out.1)
        clear hb2 x0 x1 HT1 HB1
        obtain ⟨_, x0, x1⟩ := HT2.out
        have HB1 := HB2
        have HT1 := HT2
        clear HB2 HT2
        cases hbk : bksB l
        · have HE : Hid (tblE s l = 3) := tblE_range HNP.out HL.out hbk
          go_wp2_with fail
          go_ret
          exact ⟨kret_int (HE.out.symm), HB1.out⟩
        · obtain ⟨b, off, rfl, hcell⟩ := (HC.out.open hn (by omega))
          obtain ⟨y0, y1⟩ := hcell w2 HB1.out 0 (by omega)
          clear hcell
          simp only [Nat.zero_mul, Nat.add_zero] at y0 y1
          have hpos : (0 : Int) < (n : Int) := by omega
          by_cases h0 : (bnth l 0).frm = 0
          · have h0B : decide ((bnth l 0).frm = 0) = true := decide_eq_true h0
            have h0N : ((bnth l 0).frm != 0) = false := by simp [h0]
            go_wp2_with fail
            refine (rise_any _ n cap l _ (HC.out.below HB1.out) hn HM.out).mono ?_
            rintro e w3 ⟨rfl, hb3⟩
            have HB3 := Lib.hid (HB1.out.trans (hb3.mono HB1.out.size))
            clear hb3 HB1
            have HB1 := HB3
            clear HB3
            cases hup : upB l
            · have HE : Hid (tblE s l = 4) := tblE_state HNP.out HL.out hbk (.inr hup)
              go_wp2_with fail
              go_ret
              exact ⟨kret_int (HE.out.symm), HB1.out⟩
            · have HE : Hid (tblE s l = 0) := tblE_yes HNP.out HL.out hbk h0 hup
              go_wp2_with fail
              go_ret
              exact ⟨kret_int (HE.out.symm), HB1.out⟩
          · have h0B : decide ((bnth l 0).frm = 0) = false := decide_eq_false h0
            have h0N : ((bnth l 0).frm != 0) = true := by simp [h0]
            have HE : Hid (tblE s l = 4) := tblE_state HNP.out HL.out hbk (.inl h0)
            go_wp2_with fail
            go_ret
            exact ⟨kret_int (HE.out.symm), HB1.out⟩
end Go.Proofs.YtoingnhiipfnlaaDoor
