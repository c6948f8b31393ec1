/-
  Promise H1: what is wrong with tables: the walk of checkTables; what is wrong with what is known: the walk of Known.
-/
import Derived.Test.YtoingnhiipfnlaaDoorNAmE
import Derived.Test.YtoingnhiipfnlaaDoorXSpec
namespace Go.Proofs.YtoingnhiipfnlaaDoor
open Go.RowKit Go.Sort

/-- What is wrong with tables: the first that is, else whether names rise. -/
def tbE (l : List Tb) (j : Nat) : Int := tblE (tnth l j).name (tnth l j).bks
def tbsE (l : List Tb) : Int := if firstE (tbE l) l.length = 0 then (if upN (fun j => (tnth l j).name) l.length = false then 6 else 0) else firstE (tbE l) l.length
set_option maxRecDepth 100000 in
set_option maxHeartbeats 1000000 in
theorem checkTables_any (a : Option Addr) (n cap : Nat) (l : List Tb) (w : World) (hc : CameT w a l) (hn : l.length = n) (hm : n ≤ maxLen) :
    Calls Tryd.prog 27 #[.slice a n cap] w fun e w' => e = .returned (.int .i64 (tbsE l)) ∧ Below w.heap.size w w' := by
  have hm' : n ≤ 9223372036854775807 := by unfold maxLen at hm; omega
  have HM := Lib.hid hm
  have HN := Lib.hid hn
  have HC := Lib.hid hc
  have HE : Hid (tbsE l = if firstE (tbE l) n = 0 then (if upN (fun j => (tnth l j).name) n = false then 6 else 0) else firstE (tbE l) n) := by unfold Hid tbsE; rw [hn]
  clear hm hc hn
  go_enter Tryd.func27, Tryd.ntmps27
  go_wp2_with fail
  go_loopw [8] (fun i wr => ∃ k : Nat, k ≤ n ∧ i = .int .i64 k ∧ firstE (tbE l) k = 0 ∧ Below w.heap.size w wr) (fun i _ => n - (intOf i).toNat)
  case atStart => exact ⟨0, Nat.zero_le _, rfl, rfl, Below.refl _ _⟩
  case round =>
    obtain ⟨k, hk, rfl, hf, hb⟩ := hrel
    have HF := Lib.hid hf
    have HB := Lib.hid hb
    clear hf hb
    by_cases hlt : k < n
    · have hlt' : (k : Int) < (n : Int) := by omega
      obtain ⟨b, off, rfl, hcell⟩ := HC.out.open HN.out (by omega)
      obtain ⟨ax, cx, x0, x1, hcb, hs, hlb⟩ := hcell wr HB.out k hlt
      have HCB := Lib.hid hcb
      have HLB := Lib.hid hlb
      clear hcell hcb hlb
      have HBJ := Lib.hid (kbelow_box wr (.cells #[.string (tnth l k).name, .slice ax (tnth l k).bks.length cx] 59))
      go_wp2_with fail
      refine (Check_any (tnth l k).name ax _ cx (tnth l k).bks _ (HCB.out.below HBJ.out) rfl HLB.out).mono ?_
      rintro e w1 ⟨rfl, hb1⟩
      have HB1 := Lib.hid (HB.out.trans ((HBJ.out.trans (hb1.mono HBJ.out.size)).mono HB.out.size))
      clear hb1 x0 x1
      by_cases hz : tblE (tnth l k).name (tnth l k).bks = 0
      · have HF1 : Hid (firstE (tbE l) (k + 1) = 0) := by unfold Hid; rw [firstE_ok HF.out]; exact hz
        rw [hz]
        go_wp2_with fail
        go_roundw
        case rel => exact ⟨k + 1, by omega, by go_num, HF1.out, HB1.out⟩
        case measure => simp [intOf]; omega
      · have hzB : decide (tblE (tnth l k).name (tnth l k).bks = 0) = false := decide_eq_false hz
        have hzN : (tblE (tnth l k).name (tnth l k).bks != 0) = true := by simpa using hz
        have HR : Hid (tbsE l = tblE (tnth l k).name (tnth l k).bks) := by
          unfold Hid
          have := firstE_err (f := tbE l) hlt HF.out hz
          rw [HE.out, this]
          exact if_neg hz
        generalize tblE (tnth l k).name (tnth l k).bks = z at *
        go_wp2_with fail
        go_ret
        exact ⟨kret_int HR.out.symm, HB1.out⟩
    · have hkn : k = n := by omega
      subst hkn
      go_wp2_with fail
      refine (riseT_any a k cap l _ (HC.out.below HB.out) HN.out HM.out).mono ?_
      rintro e w1 ⟨rfl, hb1⟩
      have HB1 := Lib.hid (HB.out.trans (hb1.mono HB.out.size))
      clear hb1
      have HR : Hid (tbsE l = if upN (fun j => (tnth l j).name) k = false then 6 else 0) := by unfold Hid; rw [HE.out, if_pos HF.out]
      cases hu : upN (fun j => (tnth l j).name) k
      · rw [hu] at HR
        go_wp2_with fail
        go_ret
        exact ⟨kret_int HR.out.symm, HB1.out⟩
      · rw [hu] at HR
        go_wp2_with fail
        go_ret
        exact ⟨kret_int HR.out.symm, HB1.out⟩
/-- What is known: inputs, tables, years. -/
structure Kn where
  ins : List Am
  tbs : List Tb
  yrs : List Am
/-- What is wrong with it. -/
def knE (k : Kn) : Int := if 30 < k.ins.length ∨ 30 < k.tbs.length ∨ 30 < k.yrs.length then 2 else if amsE k.ins = 0 then (if amsE k.yrs = 0 then tbsE k.tbs else amsE k.yrs) else amsE k.ins
/-- What is known came in: its three lists. -/
def CameK (w : World) (a1 a2 a3 : Option Addr) (k : Kn) : Prop := CameA w a1 k.ins ∧ CameT w a2 k.tbs ∧ CameA w a3 k.yrs ∧ NamesFit k.ins ∧ NamesFit k.yrs ∧ k.ins.length ≤ maxLen ∧ k.tbs.length ≤ maxLen ∧ k.yrs.length ≤ maxLen
theorem CameK.below {w w' : World} {a1 a2 a3 : Option Addr} {k : Kn} (h : CameK w a1 a2 a3 k) (hb : Below w.heap.size w w') : CameK w' a1 a2 a3 k :=
  ⟨h.1.below hb, h.2.1.below hb, h.2.2.1.below hb, h.2.2.2⟩
/-- What is known, in its box. -/
def KAt (w : World) (b : Nat) (u v z : Value) : Prop := b < w.heap.size ∧ w.cell? ⟨b, 0, none⟩ = some u ∧ w.cell? ⟨b, 1, none⟩ = some v ∧ w.cell? ⟨b, 2, none⟩ = some z
theorem KAt.made (w : World) (u v z : Value) (T : TypeId) : KAt (w.alloc (.cells #[u, v, z] T)) w.heap.size u v z := by
  refine ⟨?_, ?_, ?_, ?_⟩ <;> simp
theorem KAt.below {w w' : World} {b : Nat} {u v z : Value} (h : KAt w b u v z) (hb : Below w.heap.size w w') : KAt w' b u v z :=
  ⟨Nat.lt_of_lt_of_le h.1 hb.size, (hb.cell (p := ⟨b, 0, none⟩) h.1).trans h.2.1, (hb.cell (p := ⟨b, 1, none⟩) h.1).trans h.2.2.1, (hb.cell (p := ⟨b, 2, none⟩) h.1).trans h.2.2.2⟩
set_option maxRecDepth 100000 in
set_option maxHeartbeats 1000000 in
theorem Known_any (a1 a2 a3 : Option Addr) (n1 n2 n3 c1 c2 c3 : Nat) (k : Kn) (w : World) (hc : CameK w a1 a2 a3 k) (h1 : k.ins.length = n1) (h2 : k.tbs.length = n2) (h3 : k.yrs.length = n3) :
    Calls Tryd.prog 10 #[.agg #[.slice a1 n1 c1, .slice a2 n2 c2, .slice a3 n3 c3]] w fun e w' => e = .returned (.int .i64 (knE k)) ∧ Below w.heap.size w w' := by
  have hm1 : n1 ≤ 9223372036854775807 := by have := hc.2.2.2.2.2.1; unfold maxLen at this; omega
  have hm2 : n2 ≤ 9223372036854775807 := by have := hc.2.2.2.2.2.2.1; unfold maxLen at this; omega
  have hm3 : n3 ≤ 9223372036854775807 := by have := hc.2.2.2.2.2.2.2; unfold maxLen at this; omega
  have HC := Lib.hid hc
  have H1 := Lib.hid h1
  have H2 := Lib.hid h2
  have H3 := Lib.hid h3
  have HE : Hid (knE k = if 30 < n1 ∨ 30 < n2 ∨ 30 < n3 then 2 else if amsE k.ins = 0 then (if amsE k.yrs = 0 then tbsE k.tbs else amsE k.yrs) else amsE k.ins) := by unfold Hid knE; rw [h1, h2, h3]
  clear hc h1 h2 h3
  have HB0 := Lib.hid (kbelow_box w (.cells #[.slice a1 n1 c1, .slice a2 n2 c2, .slice a3 n3 c3] 25))
  have HK0 := Lib.hid (KAt.made w (.slice a1 n1 c1) (.slice a2 n2 c2) (.slice a3 n3 c3) 25)
  by_cases q1 : n1 < n2
  · have q1' : (n1 : Int) < (n2 : Int) := by omega
    by_cases q2 : n2 < n3
    · have q2' : (n2 : Int) < (n3 : Int) := by omega
      by_cases g : 30 < n3
      · have HR : Hid (knE k = 2) := by unfold Hid; rw [HE.out, if_pos (by omega)]
        have q3 : (30 : Int) < (n3 : Int) := by omega
        go_enter Tryd.func10, Tryd.ntmps10
        go_wp2_with fail
        go_ret
        exact ⟨kret_int HR.out.symm, HB0.out⟩
      · have HEN : Hid (knE k = if amsE k.ins = 0 then (if amsE k.yrs = 0 then tbsE k.tbs else amsE k.yrs) else amsE k.ins) := by unfold Hid; rw [HE.out, if_neg (by omega)]
        have q3 : ¬ (30 : Int) < (n3 : Int) := by omega
        have q3B : decide ((30 : Int) < (n3 : Int)) = false := decide_eq_false q3
        go_enter Tryd.func10, Tryd.ntmps10
        go_wp2_with fail
        refine (checkAmounts_any a1 n1 c1 k.ins _ (HC.out.1.below HB0.out) H1.out (by have := HC.out.2.2.2.2.2.1; have := H1.out; omega)).mono ?_
        rintro e w1 ⟨rfl, hb1⟩
        have HB1 := Lib.hid (HB0.out.trans (hb1.mono HB0.out.size))
        have HX1 := Lib.hid (KAt.below HK0.out hb1)
        clear hb1
        obtain ⟨_, x0, x1, x2⟩ := HX1.out
        by_cases z1 : amsE k.ins = 0
        · rw [if_pos z1] at HEN
          rw [z1]
          go_wp2_with fail
          refine (checkAmounts_any a3 n3 c3 k.yrs _ (HC.out.2.2.1.below HB1.out) H3.out (by have := HC.out.2.2.2.2.2.2.2; have := H3.out; omega)).mono ?_
          rintro e w2 ⟨rfl, hb2⟩
          have HB2 := Lib.hid (HB1.out.trans (hb2.mono HB1.out.size))
          have HX2 := Lib.hid (KAt.below HX1.out hb2)
          clear hb2 x0 x1 x2
          obtain ⟨_, x0, x1, x2⟩ := HX2.out
          by_cases z2 : amsE k.yrs = 0
          · rw [if_pos z2] at HEN
            rw [z2]
            go_wp2_with fail
            refine (checkTables_any a2 n2 c2 k.tbs _ (HC.out.2.1.below HB2.out) H2.out (by have := HC.out.2.2.2.2.2.2.1; have := H2.out; omega)).mono ?_
            rintro e w3 ⟨rfl, hb3⟩
            have HB3 := Lib.hid (HB2.out.trans (hb3.mono HB2.out.size))
            clear hb3 x0 x1 x2
            go_wp2_with fail
            go_ret
            exact ⟨kret_int HEN.out.symm, HB3.out⟩
          · rw [if_neg z2] at HEN
            have z2B : decide (amsE k.yrs = 0) = false := decide_eq_false z2
            have z2N : (amsE k.yrs != 0) = true := by simpa using z2
            generalize amsE k.yrs = z at *
            go_wp2_with fail
            go_ret
            exact ⟨kret_int HEN.out.symm, HB2.out⟩
        · rw [if_neg z1] at HEN
          have z1B : decide (amsE k.ins = 0) = false := decide_eq_false z1
          have z1N : (amsE k.ins != 0) = true := by simpa using z1
          generalize amsE k.ins = z at *
          go_wp2_with fail
          go_ret
          exact ⟨kret_int HEN.out.symm, HB1.out⟩
    · have q2' : ¬ (n2 : Int) < (n3 : Int) := by omega
      by_cases g : 30 < n2
      · have HR : Hid (knE k = 2) := by unfold Hid; rw [HE.out, if_pos (by omega)]
        have q3 : (30 : Int) < (n2 : Int) := by omega
        go_enter Tryd.func10, Tryd.ntmps10
        go_wp2_with fail
        go_ret
        exact ⟨kret_int HR.out.symm, HB0.out⟩
      · have HEN : Hid (knE k = if amsE k.ins = 0 then (if amsE k.yrs = 0 then tbsE k.tbs else amsE k.yrs) else amsE k.ins) := by unfold Hid; rw [HE.out, if_neg (by omega)]
        have q3 : ¬ (30 : Int) < (n2 : Int) := by omega
        have q3B : decide ((30 : Int) < (n2 : Int)) = false := decide_eq_false q3
        go_enter Tryd.func10, Tryd.ntmps10
        go_wp2_with fail
        refine (checkAmounts_any a1 n1 c1 k.ins _ (HC.out.1.below HB0.out) H1.out (by have := HC.out.2.2.2.2.2.1; have := H1.out; omega)).mono ?_
        rintro e w1 ⟨rfl, hb1⟩
        have HB1 := Lib.hid (HB0.out.trans (hb1.mono HB0.out.size))
        have HX1 := Lib.hid (KAt.below HK0.out hb1)
        clear hb1
        obtain ⟨_, x0, x1, x2⟩ := HX1.out
        by_cases z1 : amsE k.ins = 0
        · rw [if_pos z1] at HEN
          rw [z1]
          go_wp2_with fail
          refine (checkAmounts_any a3 n3 c3 k.yrs _ (HC.out.2.2.1.below HB1.out) H3.out (by have := HC.out.2.2.2.2.2.2.2; have := H3.out; omega)).mono ?_
          rintro e w2 ⟨rfl, hb2⟩
          have HB2 := Lib.hid (HB1.out.trans (hb2.mono HB1.out.size))
          have HX2 := Lib.hid (KAt.below HX1.out hb2)
          clear hb2 x0 x1 x2
          obtain ⟨_, x0, x1, x2⟩ := HX2.out
          by_cases z2 : amsE k.yrs = 0
          · rw [if_pos z2] at HEN
            rw [z2]
            go_wp2_with fail
            refine (checkTables_any a2 n2 c2 k.tbs _ (HC.out.2.1.below HB2.out) H2.out (by have := HC.out.2.2.2.2.2.2.1; have := H2.out; omega)).mono ?_
            rintro e w3 ⟨rfl, hb3⟩
            have HB3 := Lib.hid (HB2.out.trans (hb3.mono HB2.out.size))
            clear hb3 x0 x1 x2
            go_wp2_with fail
            go_ret
            exact ⟨kret_int HEN.out.symm, HB3.out⟩
          · rw [if_neg z2] at HEN
            have z2B : decide (amsE k.yrs = 0) = false := decide_eq_false z2
            have z2N : (amsE k.yrs != 0) = true := by simpa using z2
            generalize amsE k.yrs = z at *
            go_wp2_with fail
            go_ret
            exact ⟨kret_int HEN.out.symm, HB2.out⟩
        · rw [if_neg z1] at HEN
          have z1B : decide (amsE k.ins = 0) = false := decide_eq_false z1
          have z1N : (amsE k.ins != 0) = true := by simpa using z1
          generalize amsE k.ins = z at *
          go_wp2_with fail
          go_ret
          exact ⟨kret_int HEN.out.symm, HB1.out⟩
  · have q1' : ¬ (n1 : Int) < (n2 : Int) := by omega
    by_cases q2 : n1 < n3
    · have q2' : (n1 : Int) < (n3 : Int) := by omega
      by_cases g : 30 < n3
      · have HR : Hid (knE k = 2) := by unfold Hid; rw [HE.out, if_pos (by omega)]
        have q3 : (30 : Int) < (n3 : Int) := by omega
        go_enter Tryd.func10, Tryd.ntmps10
        go_wp2_with fail
        go_ret
        exact ⟨kret_int HR.out.symm, HB0.out⟩
      · have HEN : Hid (knE k = if amsE k.ins = 0 then (if amsE k.yrs = 0 then tbsE k.tbs else amsE k.yrs) else amsE k.ins) := by unfold Hid; rw [HE.out, if_neg (by omega)]
        have q3 : ¬ (30 : Int) < (n3 : Int) := by omega
        have q3B : decide ((30 : Int) < (n3 : Int)) = false := decide_eq_false q3
        go_enter Tryd.func10, Tryd.ntmps10
        go_wp2_with fail
        refine (checkAmounts_any a1 n1 c1 k.ins _ (HC.out.1.below HB0.out) H1.out (by have := HC.out.2.2.2.2.2.1; have := H1.out; omega)).mono ?_
        rintro e w1 ⟨rfl, hb1⟩
        have HB1 := Lib.hid (HB0.out.trans (hb1.mono HB0.out.size))
        have HX1 := Lib.hid (KAt.below HK0.out hb1)
        clear hb1
        obtain ⟨_, x0, x1, x2⟩ := HX1.out
        by_cases z1 : amsE k.ins = 0
        · rw [if_pos z1] at HEN
          rw [z1]
          go_wp2_with fail
          refine (checkAmounts_any a3 n3 c3 k.yrs _ (HC.out.2.2.1.below HB1.out) H3.out (by have := HC.out.2.2.2.2.2.2.2; have := H3.out; omega)).mono ?_
          rintro e w2 ⟨rfl, hb2⟩
          have HB2 := Lib.hid (HB1.out.trans (hb2.mono HB1.out.size))
          have HX2 := Lib.hid (KAt.below HX1.out hb2)
          clear hb2 x0 x1 x2
          obtain ⟨_, x0, x1, x2⟩ := HX2.out
          by_cases z2 : amsE k.yrs = 0
          · rw [if_pos z2] at HEN
            rw [z2]
            go_wp2_with fail
            refine (checkTables_any a2 n2 c2 k.tbs _ (HC.out.2.1.below HB2.out) H2.out (by have := HC.out.2.2.2.2.2.2.1; have := H2.out; omega)).mono ?_
            rintro e w3 ⟨rfl, hb3⟩
            have HB3 := Lib.hid (HB2.out.trans (hb3.mono HB2.out.size))
            clear hb3 x0 x1 x2
            go_wp2_with fail
            go_ret
            exact ⟨kret_int HEN.out.symm, HB3.out⟩
          · rw [if_neg z2] at HEN
            have z2B : decide (amsE k.yrs = 0) = false := decide_eq_false z2
            have z2N : (amsE k.yrs != 0) = true := by simpa using z2
            generalize amsE k.yrs = z at *
            go_wp2_with fail
            go_ret
            exact ⟨kret_int HEN.out.symm, HB2.out⟩
        · rw [if_neg z1] at HEN
          have z1B : decide (amsE k.ins = 0) = false := decide_eq_false z1
          have z1N : (amsE k.ins != 0) = true := by simpa using z1
          generalize amsE k.ins = z at *
          go_wp2_with fail
          go_ret
          exact ⟨kret_int HEN.out.symm, HB1.out⟩
    · have q2' : ¬ (n1 : Int) < (n3 : Int) := by omega
      by_cases g : 30 < n1
      · have HR : Hid (knE k = 2) := by unfold Hid; rw [HE.out, if_pos (by omega)]
        have q3 : (30 : Int) < (n1 : Int) := by omega
        go_enter Tryd.func10, Tryd.ntmps10
        go_wp2_with fail
        go_ret
        exact ⟨kret_int HR.out.symm, HB0.out⟩
      · have HEN : Hid (knE k = if amsE k.ins = 0 then (if amsE k.yrs = 0 then tbsE k.tbs else amsE k.yrs) else amsE k.ins) := by unfold Hid; rw [HE.out, if_neg (by omega)]
        have q3 : ¬ (30 : Int) < (n1 : Int) := by omega
        have q3B : decide ((30 : Int) < (n1 : Int)) = false := decide_eq_false q3
        go_enter Tryd.func10, Tryd.ntmps10
        go_wp2_with fail
        refine (checkAmounts_any a1 n1 c1 k.ins _ (HC.out.1.below HB0.out) H1.out (by have := HC.out.2.2.2.2.2.1; have := H1.out; omega)).mono ?_
        rintro e w1 ⟨rfl, hb1⟩
        have HB1 := Lib.hid (HB0.out.trans (hb1.mono HB0.out.size))
        have HX1 := Lib.hid (KAt.below HK0.out hb1)
        clear hb1
        obtain ⟨_, x0, x1, x2⟩ := HX1.out
        by_cases z1 : amsE k.ins = 0
        · rw [if_pos z1] at HEN
          rw [z1]
          go_wp2_with fail
          refine (checkAmounts_any a3 n3 c3 k.yrs _ (HC.out.2.2.1.below HB1.out) H3.out (by have := HC.out.2.2.2.2.2.2.2; have := H3.out; omega)).mono ?_
          rintro e w2 ⟨rfl, hb2⟩
          have HB2 := Lib.hid (HB1.out.trans (hb2.mono HB1.out.size))
          have HX2 := Lib.hid (KAt.below HX1.out hb2)
          clear hb2 x0 x1 x2
          obtain ⟨_, x0, x1, x2⟩ := HX2.out
          by_cases z2 : amsE k.yrs = 0
          · rw [if_pos z2] at HEN
            rw [z2]
            go_wp2_with fail
            refine (checkTables_any a2 n2 c2 k.tbs _ (HC.out.2.1.below HB2.out) H2.out (by have := HC.out.2.2.2.2.2.2.1; have := H2.out; omega)).mono ?_
            rintro e w3 ⟨rfl, hb3⟩
            have HB3 := Lib.hid (HB2.out.trans (hb3.mono HB2.out.size))
            clear hb3 x0 x1 x2
            go_wp2_with fail
            go_ret
            exact ⟨kret_int HEN.out.symm, HB3.out⟩
          · rw [if_neg z2] at HEN
            have z2B : decide (amsE k.yrs = 0) = false := decide_eq_false z2
            have z2N : (amsE k.yrs != 0) = true := by simpa using z2
            generalize amsE k.yrs = z at *
            go_wp2_with fail
            go_ret
            exact ⟨kret_int HEN.out.symm, HB2.out⟩
        · rw [if_neg z1] at HEN
          have z1B : decide (amsE k.ins = 0) = false := decide_eq_false z1
          have z1N : (amsE k.ins != 0) = true := by simpa using z1
          generalize amsE k.ins = z at *
          go_wp2_with fail
          go_ret
          exact ⟨kret_int HEN.out.symm, HB1.out⟩
end Go.Proofs.YtoingnhiipfnlaaDoor
