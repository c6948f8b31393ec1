/-
  Promise N5: who begins where a year begins reckons the same from there on: said without memory; lists of lists that hold the same.
  The law's 'choose': which of n things a raw number speaks of.
-/
import Derived.Test.YtonceehdmnkffaaGreatDoorJP
import Derived.Lib.QuietBelow
import Derived.BigQuiet
import Derived.Test.YtonceehdmnkffaaGreatDoorJA
set_option linter.unusedSimpArgs false
namespace Go.Proofs.YtonceehdmnkffaaGreatDoor
open Go.RowKit Go.Sort Go.Lib

/-- The year in which the period c begins. -/
def YearAt (p : Pl) (c : Int) (k : Nat) : Prop := ∃ f t d m, Cal.AtIs p.K p.A p.L c f t 0 ∧ Cal.IsCivil f k m d
theorem YearAt.unique {p : Pl} {c : Int} {k k' : Nat} (h : YearAt p c k) (h' : YearAt p c k') : k = k' := by
  obtain ⟨f, t, d, m, a, b⟩ := h
  obtain ⟨f', t', d', m', a', b'⟩ := h'
  obtain ⟨rfl, _, _⟩ := a.unique a'
  exact (b.unique b').1
theorem StepIs.year {p : Pl} {seen : Int} {nl ni : Nat} {y : Int} {s : List Int} {c : Int} {k : Nat} {vs : List Int} (h : StepIs p seen nl ni y s c k vs) : YearAt p c k := by
  obtain ⟨f, t, d, m, yrs, a1, a2, _⟩ := h
  exact ⟨f, t, d, m, a1, a2⟩
theorem StepIs.anew {p : Pl} {seen : Int} {nl ni : Nat} {y : Int} {s : List Int} {c : Int} {k : Nat} {vs : List Int} (h : StepIs p seen nl ni y s c k vs) {y' : Int} {s' : List Int} (e : sumsAt y k nl s = sumsAt y' k nl s') : StepIs p seen nl ni y' s' c k vs := by
  obtain ⟨f, t, d, m, yrs, a1, a2, a3, a4, a5⟩ := h
  rw [e] at a3
  exact ⟨f, t, d, m, yrs, a1, a2, a3, a4, a5⟩
theorem Runs.pre_step {p : Pl} {seen frm : Int} {nl ni n : Nat} {y : Int} {s : List Int} {o : List (List Int)} (h : Runs p seen frm nl ni n y s o) {m : Nat} (hm : m < n) : ∃ (y' : Int) (s' : List Int) (k : Nat), Runs p seen frm nl ni m y' s' (o.take m) ∧ StepIs p seen nl ni y' s' (frm + m) k (outN o m) ∧ Runs p seen frm nl ni (m + 1) (2000 + k) (addK (sumsAt y' k nl s') (outN o m) nl) (o.take (m + 1)) := by
  obtain ⟨y1, s1, r1⟩ := h.pre (m + 1) (by omega)
  obtain ⟨y2, s2, o2, k, vs, r2, st, e1, e2, e3⟩ := r1.inv
  have hl : o2.length = m := r2.len
  have e4 : o2 = o.take m := by
    have := congrArg (fun l => l.take m) e3
    simp only [List.take_take, Nat.min_eq_left (Nat.le_succ m)] at this
    rw [this, List.take_append_of_le_length (by omega), List.take_of_length_le (by omega)]
  have e5 : vs = outN o m := by
    have h := congrArg (fun l => outN l m) e3
    rw [show outN (o2 ++ [vs]) m = vs by rw [← hl]; exact outN_new] at h
    rw [← h]
    simp [outN, List.getD_eq_getElem?_getD, List.getElem?_take]
  subst e4 e5
  rw [e1, e2] at r1
  exact ⟨y2, s2, k, r2, st, r1⟩
theorem take_drop_step {o : List (List Int)} {q m : Nat} (h : q + m < o.length) : (o.take (q + m + 1)).drop q = (o.take (q + m)).drop q ++ [outN o (q + m)] := by
  rw [List.take_add_one, List.drop_append_of_le_length (by simp; omega)]
  congr 1
  simp [outN, List.getD_eq_getElem?_getD, h]
theorem sumsAt_zero (k nl : Nat) : sumsAt 0 k nl (List.replicate nl 0) = List.replicate nl 0 := by
  unfold sumsAt
  split <;> rfl
theorem Runs.cut {p : Pl} {seen frm : Int} {nl ni n : Nat} {y : Int} {s : List Int} {o : List (List Int)} (h1 : p.lns.length = nl) (hap : LApart p) (h : Runs p seen frm nl ni n y s o) {q : Nat} (hq : q < n) (hy : q = 0 ∨ (0 < q ∧ ∃ k k', YearAt p (frm + q - 1) k ∧ YearAt p (frm + q) k' ∧ k ≠ k')) : ∀ m, q + m < n → ∃ (y' : Int) (s' : List Int), Runs p seen frm nl ni (q + m + 1) y' s' (o.take (q + m + 1)) ∧ Runs p seen (frm + q) nl ni (m + 1) y' s' ((o.take (q + m + 1)).drop q)
  | 0, hm => by
    have hl : o.length = n := h.len
    obtain ⟨y1, s1, k, r1, st, r2⟩ := h.pre_step hq
    have e0 : sumsAt y1 k nl s1 = sumsAt 0 k nl (List.replicate nl 0) := by
      rw [sumsAt_zero]
      rcases hy with rfl | ⟨h0, ka, kb, ha, hb, hne⟩
      · obtain ⟨rfl, rfl, _⟩ := r1.nil
        exact sumsAt_zero k nl
      · obtain ⟨q', rfl⟩ : ∃ q', q = q' + 1 := ⟨q - 1, by omega⟩
        obtain ⟨_, _, _, k1, _, _, st1, rfl, _, _⟩ := r1.inv
        have ha' := st1.year
        rw [show frm + ((q' + 1 : Nat) : Int) - 1 = frm + (q' : Int) by omega] at ha
        obtain rfl := ha.unique ha'
        obtain rfl := hb.unique st.year
        unfold sumsAt
        rw [if_neg (by omega)]
    rw [e0] at r2
    have r3 : Runs p seen (frm + q) nl ni (0 + 1) (2000 + k) (addK (sumsAt 0 k nl (List.replicate nl 0)) (outN o q) nl) ([] ++ [outN o q]) := Runs.step .zero (by rw [show frm + (q : Int) + ((0 : Nat) : Int) = frm + q by omega]; exact st.anew e0)
    refine ⟨_, _, r2, ?_⟩
    rw [take_drop_step (q := q) (m := 0) (by omega), show (o.take (q + 0)).drop q = [] by simp]
    exact r3
  | m + 1, hm => by
    have hl : o.length = n := h.len
    obtain ⟨y', s', ra, rb⟩ := Runs.cut h1 hap h hq hy m (by omega)
    obtain ⟨y2, s2, k, r1, st, r2⟩ := h.pre_step (m := q + m + 1) (by omega)
    obtain ⟨rfl, rfl, _⟩ := Runs.det h1 hap ra r1
    refine ⟨_, _, r2, ?_⟩
    have r3 := Runs.step rb (k := k) (vs := outN o (q + m + 1)) (by rw [show frm + (q : Int) + ((m + 1 : Nat) : Int) = frm + ((q + m + 1 : Nat) : Int) by omega]; exact st)
    rw [take_drop_step (m := m + 1) (by omega)]
    exact r3
/-- Lists in a row of memory: from the cell (g, off) on, so many of them. -/
def RowsAt (w : World) (g off m B : Nat) (outs : List (List Int)) : Prop := g < w.heap.size ∧ ∀ j, j < m → ∃ v, w.cell? ⟨g, off + j, none⟩ = some v ∧ Grow w B v (outN outs j)
theorem RowsAt.below {w w' : World} {g off m B : Nat} {outs : List (List Int)} (h : RowsAt w g off m B outs) (hb : Below w.heap.size w w') : RowsAt w' g off m B outs :=
  ⟨Nat.lt_of_lt_of_le h.1 hb.size, fun j hj => by
    obtain ⟨v, q1, q2⟩ := h.2 j hj
    exact ⟨v, (hb.cell (p := ⟨g, off + j, none⟩) h.1).trans q1, grow_below q2 hb⟩⟩
theorem Lists.rows {w : World} {g c B : Nat} {outs : List (List Int)} {rows : List Value} (h : Lists w g c outs B rows) {m : Nat} (hm : m ≤ outs.length) : RowsAt w g 0 m B outs :=
  ⟨h.lt, fun j hj => ⟨rowN rows j, by rw [Nat.zero_add]; exact h.cell j (by rw [h.len]; omega), h.row j (by rw [h.len]; omega)⟩⟩
theorem outN_take {o : List (List Int)} {m j : Nat} (h : j < m) : outN (o.take m) j = outN o j := by simp [outN, List.getD_eq_getElem?_getD, List.getElem?_take, h]
theorem outN_drop {o : List (List Int)} {q j : Nat} : outN (o.drop q) j = outN o (q + j) := by simp [outN, List.getD_eq_getElem?_getD, List.getElem?_drop]
theorem RowsAt.take {w : World} {g off m B : Nat} {outs : List (List Int)} (h : RowsAt w g off m B outs) {m' : Nat} (hm : m' ≤ m) : RowsAt w g off m' B (outs.take m') :=
  ⟨h.1, fun j hj => by rw [outN_take hj]; exact h.2 j (by omega)⟩
theorem RowsAt.drop {w : World} {g m B : Nat} {outs : List (List Int)} (h : RowsAt w g 0 m B outs) {q m' : Nat} (hm : q + m' ≤ m) : RowsAt w g q m' B (outs.drop q) :=
  ⟨h.1, fun j hj => by rw [outN_drop]; have := h.2 (q + j) (by omega); rwa [Nat.zero_add] at this⟩
set_option maxRecDepth 100000 in
set_option maxHeartbeats 1000000 in
theorem sameLists_yes (g1 o1 c1 g2 o2 c2 m B1 B2 : Nat) (outs : List (List Int)) (w : World) (h1 : RowsAt w g1 o1 m B1 outs) (h2 : RowsAt w g2 o2 m B2 outs) (hm : m ≤ 60) (hl : ∀ j, j < m → (outN outs j).length ≤ 30) :
    Calls Tryz.prog 15 #[.slice (some ⟨g1, o1, none⟩) m c1, .slice (some ⟨g2, o2, none⟩) m c2] w fun e w' => e = .returned (.bool true) ∧ Below w.heap.size w w' := by
  have HA := Lib.hid h1
  have HB2 := Lib.hid h2
  have HL := Lib.hid hl
  clear h1 h2 hl
  have hmm : ((m : Int) != (m : Int)) = false := by simp
  go_enter Tryz.func15, Tryz.ntmps15
  go_wp2_with fail
  go_loopw [5] (fun i wr => ∃ k : Nat, k ≤ m ∧ i = .int .i64 k ∧ Below w.heap.size w wr) (fun i _ => m - (intOf i).toNat)
  case atStart => exact ⟨0, Nat.zero_le _, rfl, Below.refl _ _⟩
  case round =>
    obtain ⟨i, hi, rfl, hb⟩ := hrel
    have HB := Lib.hid hb
    clear hb
    by_cases hlt : i < m
    · have hlt' : (i : Int) < (m : Int) := by omega
      obtain ⟨va, xa, ga⟩ := (HA.out.below HB.out).2 i hlt
      obtain ⟨vb, xb, gb⟩ := (HB2.out.below HB.out).2 i hlt
      have HSAM : Hid (∀ W', Below wr.heap.size wr W' → Calls Tryz.prog 25 #[va, vb] W' fun e w' => e = .returned (.bool true) ∧ Below W'.heap.size W' w') := fun W' hb' => (same_grow (grow_below ga hb') (grow_below gb hb') (Nat.le_trans (HL.out i hlt) (by omega))).mono fun e w' ⟨q1, q2, q3⟩ => ⟨q1, by rw [q3]; exact kbelow_dN (Below.refl _ _) _⟩
      clear ga gb
      go_wp2_with fail
      have za := cell_regrown xa
      have zb := cell_regrown xb
      refine wp_region_quiet_below (by kernel_rfl) (by kernel_rfl) ?_
      repeat (go_big_quiet_step (exact Calls.regrown_of (HSAM.out _ (below_regrown wr _ _))))
      refine wpQuiet_nil ?_
      intro _ hw'
      obtain ⟨⟨dq, osq⟩, hw''⟩ := hw'
      subst hw''
      have HBN := Lib.hid (HB.out.trans ((below_regrown wr dq osq).mono HB.out.size))
      go_wp2_with fail
      go_roundw
      case rel => exact ⟨i + 1, by omega, by go_num, HBN.out⟩
      case measure => simp [intOf]; omega
    · obtain rfl : i = m := by omega
      have hltB : decide ((i : Int) < (i : Int)) = false := decide_eq_false (by omega)
      go_wp2_with fail
      go_ret
      exact ⟨rfl, HB.out⟩
end Go.Proofs.YtonceehdmnkffaaGreatDoor
namespace Go.Proofs.YtonceehdmnkffaaGreatDoor
open Go.RowKit

/-- Which of n things a raw number speaks of. -/
def chooseI (c n : Int) : Int := (if c < 0 then -(c + 1) else c) % n
theorem choose_any (c n : Int) (w : World) (hc : -9223372036854775808 ≤ c) (hc' : c ≤ 9223372036854775807) (hn : 1 ≤ n) (hn' : n ≤ 1000000000) :
    Calls Tryz.prog 20 #[.int .i64 c, .int .i64 n] w fun e w' => e = .returned (.int .i64 (chooseI c n)) ∧ w' = w := by
  have hn0 : (n == 0) = false := by simp; omega
  by_cases h : c < 0
  · have H : Hid (chooseI c n = (-(c + 1)) % n) := by unfold Hid chooseI; rw [if_pos h]
    have HE : Hid (-((c + 1).tmod n) = (-(c + 1)) % n) := by unfold Hid; rw [← Int.neg_tmod]; exact Int.tmod_eq_emod_of_nonneg (by omega)
    go_enter Tryz.func20, Tryz.ntmps20
    go_wp2
    go_ret
    exact ⟨kret_int (by rw [H.out]; first | done | rw [HE.out]), rfl⟩
  · have H : Hid (chooseI c n = c % n) := by unfold Hid chooseI; rw [if_neg h]
    have HE : Hid (c.tmod n = c % n) := Int.tmod_eq_emod_of_nonneg (by omega)
    go_enter Tryz.func20, Tryz.ntmps20
    go_wp2
    go_ret
    exact ⟨kret_int (by rw [H.out]; first | done | rw [HE.out]), rfl⟩
theorem choose_bd (c n : Int) (hn : 1 ≤ n) : 0 ≤ chooseI c n ∧ chooseI c n < n :=
  ⟨Int.emod_nonneg _ (by omega), Int.emod_lt_of_pos _ (by omega)⟩
end Go.Proofs.YtonceehdmnkffaaGreatDoor
