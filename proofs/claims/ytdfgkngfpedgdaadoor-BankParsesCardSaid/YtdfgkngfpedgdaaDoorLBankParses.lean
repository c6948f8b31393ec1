/-
  The walk of the law BankParses: it answers true at every input.
-/
import Derived.Test.YtdfgkngfpedgdaaDoorBPfil
namespace Go.Proofs.YtdfgkngfpedgdaaDoor
open Go.RowKit

/-- What a text comes to. -/
def ResOf (s : ByteArray) (d : Int) (l : List Py) (er a : Int) : Prop := (∃ c, Form s c ∧ refE s c = 0 ∧ d = dayT s ∧ l = lnsOf s c ∧ er = 0 ∧ a = 0) ∨ (er ≠ 0 ∧ d = 0 ∧ l = [] ∧ BadR s er a)
theorem form_one {s : ByteArray} {c c' : Nat} (h : Form s c) (h' : Form s c') : c' = c := by have := h.1.symm.trans h'.1; omega
theorem stops_lt {s : ByteArray} {c c' o o' N N' : Nat} (h : Stops (fileQ s c) N o) (hc : o < 25 ∨ numT (s.extract 6 (6 + 3)) = (c : Int)) (h' : Stops (fileQ s c') N' o') (hc' : o' < 25 ∨ numT (s.extract 6 (6 + 3)) = (c' : Int)) : ¬ o < o' := fun hlt => by
  have t := h'.2.1 o hlt
  have f := h.2.2
  by_cases e : o < 25
  · have q : fileQ s c' o = fileQ s c o := by unfold fileQ; rw [if_pos e, if_pos e]
    rw [q, f] at t
    cases t
  · have h1 : numT (s.extract 6 (6 + 3)) = (c : Int) := by
      rcases hc with z | z
      · omega
      · exact z
    have h2 : numT (s.extract 6 (6 + 3)) = (c' : Int) := by
      rcases hc' with z | z
      · omega
      · exact z
    obtain rfl : c = c' := by have := h1.symm.trans h2; omega
    rw [f] at t
    cases t
theorem stops_form {s : ByteArray} {c c' o : Nat} (h : Stops (fileQ s c') (25 + 45 * c' + 13) o) (hc : o < 25 ∨ numT (s.extract 6 (6 + 3)) = (c' : Int)) (hf : Form s c) : False := by
  have key : fileQ s c' o = true := by
    rcases hc with h4 | h4
    · have : fileQ s c' o = fileQ s c o := by unfold fileQ; rw [if_pos h4, if_pos h4]
      rw [this]
      exact hf.2.2.1 o (by omega)
    · obtain rfl : c' = c := by have := h4.symm.trans hf.1; omega
      exact hf.2.2.1 o h.1
  rw [h.2.2] at key
  cases key
theorem badR_form {s : ByteArray} {er a : Int} {c : Nat} (h : BadR s er a) (hf : Form s c) : a = 0 ∧ er = refE s c := by
  rcases h with ⟨_, c', o, _, h4, _, h6⟩ | ⟨ha, c', h4, h5⟩
  · exact absurd (stops_form h6 h4 hf) id
  · obtain rfl : c' = c := form_one hf h4
    exact ⟨ha, h5⟩
theorem badR_one {s : ByteArray} {er a er' a' : Int} (h : BadR s er a) (h' : BadR s er' a') : er = er' ∧ a = a' := by
  rcases h with ⟨e1, c, o, ha, h4, _, h6⟩ | ⟨ha, c, h4, h5⟩
  · rcases h' with ⟨e2, c', o', ha', h4', _, h6'⟩ | ⟨_, c', h4', _⟩
    · have q1 := stops_lt h6 h4 h6' h4'
      have q2 := stops_lt h6' h4' h6 h4
      obtain rfl : o = o' := by omega
      exact ⟨e1.trans e2.symm, ha.trans ha'.symm⟩
    · exact absurd (stops_form h6 h4 h4') id
  · obtain ⟨q1, q2⟩ := badR_form h' h4
    exact ⟨h5.trans q2.symm, ha.trans q1.symm⟩
theorem ResOf.one {s : ByteArray} {d d' er er' a a' : Int} {l l' : List Py} (h : ResOf s d l er a) (h' : ResOf s d' l' er' a') : d = d' ∧ l = l' ∧ er = er' ∧ a = a' := by
  rcases h with ⟨c, h1, h2, h3, h4, h5, h6⟩ | ⟨h1, h2, h3, h4⟩
  · rcases h' with ⟨c', k1, k2, k3, k4, k5, k6⟩ | ⟨k1, k2, k3, k4⟩
    · obtain rfl : c' = c := form_one h1 k1
      exact ⟨h3.trans k3.symm, h4.trans k4.symm, h5.trans k5.symm, h6.trans k6.symm⟩
    · exact absurd ((badR_form k4 h1).2.trans h2) k1
  · rcases h' with ⟨c', k1, k2, k3, k4, k5, k6⟩ | ⟨k1, k2, k3, k4⟩
    · exact absurd ((badR_form h4 k1).2.trans k2) h1
    · obtain ⟨q1, q2⟩ := badR_one h4 k4
      exact ⟨h2.trans k2.symm, h3.trans k3.symm, q1, q2⟩
theorem ResOf.len {s : ByteArray} {d er a : Int} {l : List Py} (h : ResOf s d l er a) : l.length ≤ 999 := by
  rcases h with ⟨c, h1, _, _, h4, _, _⟩ | ⟨_, _, h3, _⟩
  · rw [h4, lnsOf_len]; exact h1.2.1
  · rw [h3]; simp
theorem RefIs.res {s : ByteArray} {w w' : World} {e : Ending} (h : RefIs s w e w') : ∃ (d er a : Int) (l : List Py) (x : Option Addr) (n c : Nat), e = .returned (.tuple #[.int .i64 d, .slice x n c, .agg #[.int .i64 er, .int .i64 a]]) ∧ CameP w' x l ∧ l.length = n ∧ ResOf s d l er a := by
  rcases h.2 with ⟨c, v, h1, h2, h3, h4⟩ | ⟨er, a, h1, h2, h3⟩
  · obtain ⟨x, k, rfl, h5⟩ := h4.came (lnsOf_len s c)
    exact ⟨_, _, _, lnsOf s c, x, c, k, h3, h5, lnsOf_len s c, .inl ⟨c, h1, h2, rfl, rfl, rfl, rfl⟩⟩
  · exact ⟨_, _, _, [], none, 0, 0, h2, .inl rfl, rfl, .inr ⟨h1, rfl, rfl, h3⟩⟩
theorem ParseIs.ref {s : ByteArray} {w w' : World} {e : Ending} (h : ParseIs s w e w') : RefIs s w e w' := by
  refine ⟨h.1, ?_⟩
  rcases h.2 with ⟨c, v, h1, h2, h3, h4⟩ | ⟨er, a, h1, h2, h3⟩
  · exact .inl ⟨c, v, h1, (cmp_ref h1).symm.trans h2, h3, h4⟩
  · refine .inr ⟨er, a, h1, h2, ?_⟩
    rcases h3 with h3 | ⟨ha, c, h4, h5⟩
    · exact .inl h3
    · exact .inr ⟨ha, c, h4, h5.trans (cmp_ref h4)⟩
set_option maxRecDepth 100000 in
set_option maxHeartbeats 4000000 in
theorem walk_bankParses {w : World} (s : ByteArray) (hs0 : s.size ≤ 140737488351232) (ht : Tab w) :
    Calls Tryd.prog 5 #[.string s] w fun e w' => e = .returned (.bool true) ∧ Below w.heap.size w w' := by
  have hs : s.size ≤ 9223372036854775807 := by omega
  have HT := Lib.hid ht
  clear ht hs0
  go_enter Tryd.func5, Tryd.ntmps5
  go_wp2_with fail
  refine (Parse_any s _ HT.out hs).mono ?_
  rintro e w1 h1
  obtain ⟨d, er, a, l, x, n, c, rfl, hx, hl, hr⟩ := h1.ref.res
  have HB1 := Lib.hid h1.1
  have HX1 := Lib.hid hx
  have HR1 := Lib.hid hr
  clear h1 hx hr
  have HBX1 := Lib.hid (bbelow_box w1 (.cells #[.int .i64 er, .int .i64 a] 38))
  have HB2 := Lib.hid (HB1.out.trans (HBX1.out.mono HB1.out.size))
  have f0 : (w1.alloc (.cells #[.int .i64 er, .int .i64 a] 38)).cell? ⟨w1.heap.size, 0, none⟩ = some (.int .i64 er) := by simp
  have f1 : (w1.alloc (.cells #[.int .i64 er, .int .i64 a] 38)).cell? ⟨w1.heap.size, 1, none⟩ = some (.int .i64 a) := by simp
  have flt : w1.heap.size < (w1.alloc (.cells #[.int .i64 er, .int .i64 a] 38)).heap.size := by simp
  go_wp2_with fail
  refine (parseFile_ref s _ hs).mono ?_
  rintro e w2 h2
  obtain ⟨d2, er2, a2, l2, x2, n2, c2, rfl, hx2, hl2, hr2⟩ := h2.res
  obtain ⟨rfl, rfl, rfl, rfl⟩ := HR1.out.one hr2
  obtain rfl : n = n2 := hl.symm.trans hl2
  have HB3 := Lib.hid (HB2.out.trans (h2.1.mono HB2.out.size))
  have g0 := (h2.1.cell (p := ⟨w1.heap.size, 0, none⟩) flt).trans f0
  have g1 := (h2.1.cell (p := ⟨w1.heap.size, 1, none⟩) flt).trans f1
  have glt := Nat.lt_of_lt_of_le flt h2.1.size
  have HX2 := Lib.hid ((HX1.out.below HBX1.out).below h2.1)
  have HY2 := Lib.hid hx2
  have HLN := Lib.hid HR1.out.len
  clear h2 hx2 hl2 hr2 f0 f1 flt HX1 HBX1 HB1 HB2 HR1
  generalize w1.heap.size = g at *
  have HBX2 := Lib.hid (bbelow_box w2 (.cells #[.int .i64 er, .int .i64 a] 38))
  have HB4 := Lib.hid (HB3.out.trans (HBX2.out.mono HB3.out.size))
  have p0 := (HBX2.out.cell (p := ⟨g, 0, none⟩) glt).trans g0
  have p1 := (HBX2.out.cell (p := ⟨g, 1, none⟩) glt).trans g1
  have plt := Nat.lt_of_lt_of_le glt HBX2.out.size
  have r0 : (w2.alloc (.cells #[.int .i64 er, .int .i64 a] 38)).cell? ⟨w2.heap.size, 0, none⟩ = some (.int .i64 er) := by simp
  have r1 : (w2.alloc (.cells #[.int .i64 er, .int .i64 a] 38)).cell? ⟨w2.heap.size, 1, none⟩ = some (.int .i64 a) := by simp
  have rlt : w2.heap.size < (w2.alloc (.cells #[.int .i64 er, .int .i64 a] 38)).heap.size := by simp
  go_wp2_with (first
    | (go_at_call 13; refine (begun_any _ (HT.out.below HB4.out)).mono ?_; rintro e w3 ⟨rfl, hb3⟩; refine Hid.out ?_))
  have HB5 := Lib.hid (HB4.out.trans (hb3.mono HB4.out.size))
  have u0 := (hb3.cell (p := ⟨g, 0, none⟩) plt).trans p0
  have u1 := (hb3.cell (p := ⟨g, 1, none⟩) plt).trans p1
  have v0 := (hb3.cell (p := ⟨w2.heap.size, 0, none⟩) rlt).trans r0
  have v1 := (hb3.cell (p := ⟨w2.heap.size, 1, none⟩) rlt).trans r1
  have HX5 := Lib.hid ((HX2.out.below HBX2.out).below hb3)
  have HY5 := Lib.hid ((HY2.out.below HBX2.out).below hb3)
  clear hb3 g0 g1 glt p0 p1 plt r0 r1 rlt HX2 HY2 HB3 HB4 HBX2
  have HL := Lib.hid hl
  have hn9 : n ≤ 999 := by rw [← hl]; exact HLN.out
  clear hl
  refine Lib.hid ?_
  go_wp2_with (first
    | (go_at_call 23; refine (samePayments_ref x x2 n c c2 l _ HX5.out HY5.out HL.out (by omega)).mono ?_; rintro e w4 ⟨rfl, q, h4⟩; subst h4))
  go_ret
  exact ⟨by first | rfl | exact kret_bool (by simp), HB5.out.trans ((below_drewN q).mono HB5.out.size)⟩
end Go.Proofs.YtdfgkngfpedgdaaDoor
