/-
  Promises G2, G3: walks of checkBase, Tax, Rate and Gross; what must be in any case (bracketBegun).
-/
import Derived.Test.YtmiijmgidbbmhaaKGross
namespace Go.Proofs.Ytmiijmgidbbmhaa
open Go.RowKit

/-- What is wrong with a table and a base. -/
def baseE (s : ByteArray) (l : List Bk) (base : Int) : Int := if tblE s l ≠ 0 then tblE s l else if monB base = true then 0 else 3
theorem baseE_tbl {s : ByteArray} {l : List Bk} {base : Int} (h : tblE s l ≠ 0) : baseE s l base = tblE s l := by unfold baseE; rw [if_pos h]
theorem baseE_far {s : ByteArray} {l : List Bk} {base : Int} (h : tblE s l = 0) (h2 : monB base = false) : baseE s l base = 3 := by unfold baseE; rw [if_neg (by simpa using h), if_neg (by simp [h2])]
theorem baseE_yes {s : ByteArray} {l : List Bk} {base : Int} (h : tblE s l = 0) (h2 : monB base = true) : baseE s l base = 0 := by unfold baseE; rw [if_neg (by simpa using h), if_pos h2]
theorem baseE_ok {s : ByteArray} {l : List Bk} {base : Int} (h : baseE s l base = 0) : Right l ∧ -1000000000000 ≤ base ∧ base ≤ 1000000000000 ∧ tblE s l = 0 := by
  unfold baseE at h
  split at h
  · exact absurd h ‹_›
  · split at h
    · rename_i h1 h2
      have h2' : -1000000000000 ≤ base ∧ base ≤ 1000000000000 := of_decide_eq_true h2
      have h1' : tblE s l = 0 := by simpa using h1
      exact ⟨(tblE_ok h1').2, h2'.1, h2'.2, h1'⟩
    · cases h
set_option maxRecDepth 100000 in
set_option maxHeartbeats 1000000 in
theorem checkBase_any (s : ByteArray) (a : Option Addr) (n cap : Nat) (l : List Bk) (base : Int) (w : World) (hc : CameB w a l) (hn : l.length = n) (hm : n ≤ maxLen) :
    Calls Try.prog 33 #[.agg #[.string s, .slice a n cap], .int .i64 base] w fun e w' => e = .returned (.int .i64 (baseE s l base)) ∧ Below w.heap.size w w' := by
  have HC := Lib.hid hc
  have HM := Lib.hid hm
  clear hm hc
  have HB0 := Lib.hid (kbelow_box w (.cells #[.string s, .slice a n cap] 24))
  go_enter Try.func33, Try.ntmps33
  go_wp2_with fail
  refine (Check_any s a n cap l _ (HC.out.below HB0.out) hn HM.out).mono ?_
  rintro e w1 ⟨rfl, hbel⟩
  have HB1 := Lib.hid (HB0.out.trans (hbel.mono HB0.out.size))
  clear hbel
  by_cases h0 : tblE s l = 0
  · rw [h0]
    go_wp2_with fail
    refine (isMoney_any _ _).mono ?_
    rintro e w' ⟨rfl, h'⟩
    subst w'
    cases hb : monB base
    · have HE : Hid (baseE s l base = 3) := baseE_far h0 hb
      go_wp2_with fail
      go_ret
      exact ⟨kret_int (HE.out.symm), HB1.out⟩
    · have HE : Hid (baseE s l base = 0) := baseE_yes h0 hb
      go_wp2_with fail
      go_ret
      exact ⟨kret_int (HE.out.symm), HB1.out⟩
  · have HE : Hid (baseE s l base = tblE s l) := baseE_tbl h0
    have h0N : (tblE s l != 0) = true := by simp [h0]
    have h0B : decide (tblE s l = 0) = false := decide_eq_false h0
    go_wp2_with fail
    go_ret
    exact ⟨kret_int (HE.out.symm), HB1.out⟩
/-- What Tax and Rate answer. -/
def taxR (s : ByteArray) (l : List Bk) (base : Int) : Int := if baseE s l base = 0 then taxN l base else 0
def rateR (s : ByteArray) (l : List Bk) (base : Int) : Int := if baseE s l base = 0 then rateN l base else 0
theorem kret2 {a b c d : Int} (h : a = b) (k : c = d) : Ending.returned (.tuple #[.int .i64 a, .int .i64 c]) = .returned (.tuple #[.int .i64 b, .int .i64 d]) := by rw [h, k]
set_option maxRecDepth 100000 in
set_option maxHeartbeats 1000000 in
theorem Tax_any (s : ByteArray) (a : Option Addr) (n cap : Nat) (l : List Bk) (base : Int) (w : World) (hc : CameB w a l) (hn : l.length = n) (hm : n ≤ maxLen) :
    Calls Try.prog 15 #[.agg #[.string s, .slice a n cap], .int .i64 base] w fun e w' => e = .returned (.tuple #[.int .i64 (taxR s l base), .int .i64 (baseE s l base)]) ∧ Below w.heap.size w w' := by
  have HC := Lib.hid hc
  have HM := Lib.hid hm
  clear hm hc
  have HB0 := Lib.hid (kbelow_box w (.cells #[.string s, .slice a n cap] 24))
  have HT0 := Lib.hid (TIs.made w s a n cap 24)
  go_enter Try.func15, Try.ntmps15
  go_wp2_with fail
  refine (checkBase_any s a n cap l base _ (HC.out.below HB0.out) hn HM.out).mono ?_
  rintro e w1 ⟨rfl, hbel⟩
  have HB1 := Lib.hid (HB0.out.trans (hbel.mono HB0.out.size))
  have HT1 := Lib.hid (HT0.out.below hbel HT0.out.1)
  clear hbel
  obtain ⟨_, x0, x1⟩ := HT1.out
  by_cases h0 : baseE s l base = 0
  · have HR : Hid (taxR s l base = taxN l base) := by unfold Hid taxR; rw [if_pos h0]
    obtain ⟨hl, hb1, hb2, _⟩ := baseE_ok h0
    have HL := Lib.hid hl
    have HE := Lib.hid h0
    rw [h0]
    clear hl h0
    go_wp2_with fail
    refine (taxOf_any a n cap l base _ (HC.out.below HB1.out) hn HL.out hb1 hb2).mono ?_
    rintro e w2 ⟨rfl, hb⟩
    have HB2 := Lib.hid (HB1.out.trans (hb.mono HB1.out.size))
    clear hb
    go_wp2_with fail
    go_ret2
    exact ⟨kret2 HR.out.symm HE.out.symm, HB2.out⟩
  · have HR : Hid (taxR s l base = 0) := by unfold Hid taxR; rw [if_neg h0]
    have h0N : (baseE s l base != 0) = true := by simp [h0]
    have h0B : decide (baseE s l base = 0) = false := decide_eq_false h0
    go_wp2_with fail
    go_ret2
    exact ⟨kret2 HR.out.symm rfl, HB1.out⟩
set_option maxRecDepth 100000 in
set_option maxHeartbeats 1000000 in
theorem Rate_any (s : ByteArray) (a : Option Addr) (n cap : Nat) (l : List Bk) (base : Int) (w : World) (hc : CameB w a l) (hn : l.length = n) (hm : n ≤ maxLen) :
    Calls Try.prog 19 #[.agg #[.string s, .slice a n cap], .int .i64 base] w fun e w' => e = .returned (.tuple #[.int .i64 (rateR s l base), .int .i64 (baseE s l base)]) ∧ Below w.heap.size w w' := by
  have HC := Lib.hid hc
  have HM := Lib.hid hm
  clear hm hc
  have HB0 := Lib.hid (kbelow_box w (.cells #[.string s, .slice a n cap] 24))
  have HT0 := Lib.hid (TIs.made w s a n cap 24)
  go_enter Try.func19, Try.ntmps19
  go_wp2_with fail
  refine (checkBase_any s a n cap l base _ (HC.out.below HB0.out) hn HM.out).mono ?_
  rintro e w1 ⟨rfl, hbel⟩
  have HB1 := Lib.hid (HB0.out.trans (hbel.mono HB0.out.size))
  have HT1 := Lib.hid (HT0.out.below hbel HT0.out.1)
  clear hbel
  obtain ⟨_, x0, x1⟩ := HT1.out
  by_cases h0 : baseE s l base = 0
  · have HR : Hid (rateR s l base = rateN l base) := by unfold Hid rateR; rw [if_pos h0]
    obtain ⟨hl, hb1, hb2, _⟩ := baseE_ok h0
    have HL := Lib.hid hl
    have HE := Lib.hid h0
    rw [h0]
    clear hl h0
    go_wp2_with fail
    refine (rateUpTo_any a n cap l base _ (HC.out.below HB1.out) hn (by rw [← hn]; exact HL.out.1) (by rw [← hn]; exact HL.out.2.1)).mono ?_
    rintro e w2 ⟨rfl, hb⟩
    have HB2 := Lib.hid (HB1.out.trans (hb.mono HB1.out.size))
    clear hb
    go_wp2_with fail
    go_ret2
    exact ⟨kret2 HR.out.symm HE.out.symm, HB2.out⟩
  · have HR : Hid (rateR s l base = 0) := by unfold Hid rateR; rw [if_neg h0]
    have h0N : (baseE s l base != 0) = true := by simp [h0]
    have h0B : decide (baseE s l base = 0) = false := decide_eq_false h0
    go_wp2_with fail
    go_ret2
    exact ⟨kret2 HR.out.symm rfl, HB1.out⟩
/-- What Gross answers. -/
def GrossIs (s : ByteArray) (l : List Bk) (net g e : Int) : Prop := (tblE s l ≠ 0 ∧ g = 0 ∧ e = tblE s l) ∨ (tblE s l = 0 ∧ (((net < 0 ∨ 1000000000000 < net) ∧ g = 0 ∧ e = 3) ∨ ((0 ≤ net ∧ net ≤ 1000000000000) ∧ ∃ i, LeastIs l net i ∧ ((1000000000000 < i ∧ g = 0 ∧ e = 5) ∨ (i ≤ 1000000000000 ∧ g = i ∧ e = 0)))))
set_option maxRecDepth 100000 in
set_option maxHeartbeats 1000000 in
theorem Gross_any (s : ByteArray) (a : Option Addr) (n cap : Nat) (l : List Bk) (net : Int) (w : World) (hc : CameB w a l) (hn : l.length = n) (hm : n ≤ maxLen) :
    Calls Try.prog 21 #[.agg #[.string s, .slice a n cap], .int .i64 net] w fun e w' => ∃ g er : Int, e = .returned (.tuple #[.int .i64 g, .int .i64 er]) ∧ GrossIs s l net g er ∧ Below w.heap.size w w' := by
  have HC := Lib.hid hc
  have HM := Lib.hid hm
  clear hm hc
  have HB0 := Lib.hid ((kbelow_box w (.cells #[.string s, .slice a n cap] 24)).alloc (kbelow_box w (.cells #[.string s, .slice a n cap] 24)).size (.cells #[.int .i64 net] 3))
  have HT0 := Lib.hid ((TIs.made w s a n cap 24).below (kbelow_box _ (.cells #[.int .i64 net] 3)) (TIs.made w s a n cap 24).1)
  have HN0 : Hid (((w.alloc (.cells #[.string s, .slice a n cap] 24)).alloc (.cells #[.int .i64 net] 3)).cell? ⟨w.heap.size + 1, 0, none⟩ = some (.int .i64 net)) := by unfold Hid; simp
  have hmf : ∀ (fn : Fn) (first cap : Array Value) (w : World), (Instr.makeFunc fn first cap).run Try.prog w = .ok (.func fn first cap) w := fun _ _ _ _ => rfl
  go_enter Try.func21, Try.ntmps21
  go_wp2_with fail
  refine (Check_any s a n cap l _ (HC.out.below HB0.out) hn HM.out).mono ?_
  rintro e w1 ⟨rfl, hbel⟩
  have HB1 := Lib.hid (HB0.out.trans (hbel.mono HB0.out.size))
  have HT1 := Lib.hid (HT0.out.below hbel HT0.out.1)
  have x2 : w1.cell? ⟨w.heap.size + 1, 0, none⟩ = some (.int .i64 net) := (hbel.cell (p := ⟨w.heap.size + 1, 0, none⟩) (by simp)).trans HN0.out
  clear hbel
  obtain ⟨_, x0, x1⟩ := HT1.out
  by_cases h0 : tblE s l = 0
  · have HL := Lib.hid (tblE_ok h0).2
    have HE := Lib.hid h0
    rw [h0]
    clear h0
    by_cases hn0 : net < 0
    · have HMB : Hid True := trivial
      have HG : Hid (GrossIs s l net 0 3) := .inr ⟨HE.out, .inl ⟨.inl hn0, rfl, rfl⟩⟩
      go_wp2_with (go_at_call 37; refine (isMoney_any _ _).mono ?_; rintro e w' ⟨rfl, h'⟩; subst w'; rw [HMB.out])
      go_ret2
      exact ⟨_, _, rfl, HG.out, HB1.out⟩
    · have hn0B : decide (net < 0) = false := decide_eq_false hn0
      by_cases hn1 : 1000000000000 < net
      · have HMB : Hid (monB net = false) := decide_eq_false (by omega)
        have HG : Hid (GrossIs s l net 0 3) := .inr ⟨HE.out, .inl ⟨.inr hn1, rfl, rfl⟩⟩
        go_wp2_with (go_at_call 37; refine (isMoney_any _ _).mono ?_; rintro e w' ⟨rfl, h'⟩; subst w'; rw [HMB.out])
        go_ret2
        exact ⟨_, _, rfl, HG.out, HB1.out⟩
      · have HMB : Hid (monB net = true) := decide_eq_true (by omega)
        go_wp2_with (go_at_call 37; refine (isMoney_any _ _).mono ?_; rintro e w' ⟨rfl, h'⟩; subst w'; rw [HMB.out])
        refine (search_any w.heap.size (w.heap.size + 1) s a n cap l net _ HT1.out x2 (HC.out.below HB1.out) hn HL.out).mono ?_
        rintro e w2 ⟨i, rfl, hi, hb⟩
        have HB2 := Lib.hid (HB1.out.trans (hb.mono HB1.out.size))
        have HI := Lib.hid hi
        clear hb hi HB1
        have HB1 := HB2
        clear HB2
        by_cases hi1 : 1000000000000 < i
        · have HG : Hid (GrossIs s l net 0 5) := .inr ⟨HE.out, .inr ⟨⟨by omega, by omega⟩, i, HI.out, .inl ⟨hi1, rfl, rfl⟩⟩⟩
          go_wp2_with (go_at_call 37; refine (isMoney_any _ _).mono ?_; rintro e w' ⟨rfl, h'⟩; subst w'; rw [HMB.out])
          go_ret2
          exact ⟨_, _, rfl, HG.out, HB1.out⟩
        · have hi1B : decide (1000000000000 < i) = false := decide_eq_false hi1
          have HG : Hid (GrossIs s l net i 0) := .inr ⟨HE.out, .inr ⟨⟨by omega, by omega⟩, i, HI.out, .inr ⟨by omega, rfl, rfl⟩⟩⟩
          go_wp2_with (go_at_call 37; refine (isMoney_any _ _).mono ?_; rintro e w' ⟨rfl, h'⟩; subst w'; rw [HMB.out])
          go_ret2
          exact ⟨_, _, rfl, HG.out, HB1.out⟩
  · have HMB : Hid True := trivial
    have h0N : (tblE s l != 0) = true := by simp [h0]
    have h0B : decide (tblE s l = 0) = false := decide_eq_false h0
    have HG : Hid (GrossIs s l net 0 (tblE s l)) := .inl ⟨h0, rfl, rfl⟩
    go_wp2_with (go_at_call 37; refine (isMoney_any _ _).mono ?_; rintro e w' ⟨rfl, h'⟩; subst w'; rw [HMB.out])
    go_ret2
    exact ⟨_, _, rfl, HG.out, HB1.out⟩
end Go.Proofs.Ytmiijmgidbbmhaa
