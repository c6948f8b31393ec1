/-
  Promise K1: rows of two ints of the call's own that are appended to; the walk of Pairs.
-/
import Derived.Test.YtikkeidapgmcnaaUCheck
import Derived.ArgAppend
import Derived.Maps.AppendAt
import Derived.Deep.RegionLaw
import Derived.Laws.MakeOwn
import Derived.OwnWalk
namespace Go.Proofs.Ytikkeidapgmcnaa
open Go.RowKit

theorem per_info : (Try.prog.info? 30).map (fun i => (i.zero, i.size, i.bytes)) = some (some (.agg #[.int .i64 0, .int .i64 0]), 2, 16) := by kernel_rfl
/-- The slice v, of the call's own from block B on, holds n pairs, whose ints are L. -/
def GrowF (w : World) (B : Nat) (v : Value) (n : Nat) (L : List Int) : Prop := w.ownsRow B 30 2 v n (L.map (Value.int .i64)) ∧ L.length = n * 2
theorem GrowF.lt {w : World} {B n : Nat} {v : Value} {L : List Int} (h : GrowF w B v n L) : ∀ k, v.ownBlock = some k → B ≤ k ∧ k < w.heap.size := World.ownsRow.lt h.1
theorem GrowF.alloc {w : World} {B n : Nat} {v : Value} {L : List Int} (h : GrowF w B v n L) (o : Obj) : GrowF (w.alloc o) B v n L := ⟨World.ownsRow.alloc h.1 o, h.2⟩
theorem GrowF.drewN {w : World} {B n : Nat} {v : Value} {L : List Int} (h : GrowF w B v n L) (k : Nat) : GrowF (w.drewN k) B v n L := h
theorem GrowF.form {w : World} {B n : Nat} {v : Value} {L : List Int} (h : GrowF w B v n L) : (v = .slice none 0 0 ∧ n = 0) ∨ ∃ g c, v = .slice (some ⟨g, 0, none⟩) n c ∧ B ≤ g ∧ At w g 0 L := by
  have hh := h
  rcases h.1.2 with ⟨h1, h2⟩ | ⟨g, c, cur, h1, h2, _⟩
  · exact .inl ⟨h1, h2⟩
  · subst h1
    refine .inr ⟨g, c, rfl, h2, (GrowF.lt hh g rfl).2, fun j hj => ?_⟩
    have := World.ownsRow.cells hh.1 (g := g) rfl j (.int .i64 (nth L j)) (by simp [nth, List.getD_eq_getElem?_getD, hj])
    rwa [Addr.add_lit] at this
theorem GrowF.slice {w : World} {B n : Nat} {v : Value} {L : List Int} (h : GrowF w B v n L) : ∃ x c, v = .slice x n c := by
  rcases h.form with ⟨h1, h2⟩ | ⟨g, c, h1, _⟩
  · subst h2; exact ⟨none, 0, h1⟩
  · exact ⟨_, c, h1⟩
theorem step_app_per {ops : Array Oper} {o : Oper} {a : Act} {K : Act → World → Prop} {Q : Exit → Act → World → Prop} {E : Prop} (w : World) (hgd : o.guard = none) (s x : Operand)
    (ho : o.op = .call { callee := .builtin .append, args := #[s, x], argTypes := #[23, 23] })
    (B n : Nat) (v : Value) (L : List Int) (hs : a.eval s = v) (hown : GrowF w B v n L) (b c : Nat) (p q : Int) (hx : a.eval x = .slice (some ⟨b, 0, none⟩) 1 c)
    (h0 : w.cell? ⟨b, 0, none⟩ = some (.int .i64 p)) (h1 : w.cell? ⟨b, 1, none⟩ = some (.int .i64 q)) (hb : n ≤ 1000) (hB : B ≤ w.heap.size)
    (h : ∀ v' w', GrowF w' B v' (n + 1) (L ++ [p, q]) → Below B w w' → K (a.put o.dst v') w') :
    if Region.wanted o (yielded ops a.tmps) = true then Oper.wp Try.prog o a w K Q else E := by
  have hw : Region.wanted o (yielded ops a.tmps) = true := by simp [Region.wanted, hgd]
  rw [if_pos hw]
  obtain ⟨i0, hi, hz0, hz1, hz2⟩ := info_parts per_info
  have hnews : ∀ j u, ([Value.int .i64 p, Value.int .i64 q])[j]? = some u → w.cell? ((⟨b, 0, none⟩ : Addr).add j) = some u := by
    intro j u hu
    rw [Addr.add_lit, Nat.zero_add]
    match j with
    | 0 => simp at hu; subst hu; exact h0
    | 1 => simp at hu; subst hu; exact h1
    | j + 2 => simp at hu
  obtain ⟨v', w', hr, h2, h3, _, h5⟩ := run_append_own_at (P := Try.prog) w B 23 o.type 30 i0 _ 2 16 Try.underlying23 hi hz0 hz1 hz2 rfl (by decide) v n (L.map (Value.int .i64)) hown.1 ⟨b, 0, none⟩ 1 c [Value.int .i64 p, Value.int .i64 q] rfl hnews (by simp [Value.oneCell']) (by unfold maxLen; omega) (by omega) hB
  have h2' : GrowF w' B v' (n + 1) (L ++ [p, q]) := by
    refine ⟨?_, by rw [List.length_append, hown.2]; simp; omega⟩
    rw [List.map_append]
    exact h2
  unfold Oper.wp execOp
  simp only [ho, resolve, invoke, builtin, Sem.run_bind, Sem.run_pure, Result.andThen_ok, List.map_toArray, List.map_cons, List.map_nil, hs, hx, hr]
  exact h v' w' h2' ((Below.refl B w).grown h3 hB fun k hk => (GrowF.lt hown k hk).1)
theorem make_pers (n : Nat) (h : n ≤ 60) (w : World) :
    (Instr.makeSlice 23 (.int .i64 0) (.int .i64 (n : Int))).run Try.prog w = .ok (.slice (some ⟨w.heap.size, 0, none⟩) 0 n) (w.alloc (.cells (madeCells #[.int .i64 0, .int .i64 0] (n * 2)) 30)) := by
  obtain ⟨i0, hi, hz0, hz1, hz2⟩ := info_parts per_info
  have h := run_make (P := Try.prog) w 23 30 i0 _ Try.underlying23 hi hz0 .i64 .i64 0 (n : Int) (by omega) (by omega) (by rw [hz2]; omega) (by omega)
  rw [hz1] at h
  simpa [Value.cells] using h
theorem made_pers (w : World) (n : Nat) {B : Nat} (hB : B ≤ w.heap.size) (hn : n ≤ 60) : GrowF (w.alloc (.cells (madeCells #[.int .i64 0, .int .i64 0] (n * 2)) 30)) B (.slice (some ⟨w.heap.size, 0, none⟩) 0 n) 0 [] := by
  refine ⟨World.ownsRow_made (w := w) _ n hB (by unfold maxLen; omega) ?_, rfl⟩
  rw [size_madeCells]
theorem take_two {l : List Int} {k : Nat} (h : 2 * k + 1 < l.length) : l.take (2 * (k + 1)) = l.take (2 * k) ++ [nth l (2 * k), nth l (2 * k + 1)] := by
  have e : 2 * (k + 1) = 2 * k + 1 + 1 := by omega
  rw [e, List.take_add_one, List.take_add_one, List.append_assoc]
  simp [nth, List.getD_eq_getElem?_getD, h, show 2 * k < l.length by omega]
theorem uval {k : IntKind} {a b : Int} (h : a = b) : Value.int k a = Value.int k b := by rw [h]
/-- What Pairs answers. -/
def PairsIs (w' : World) (l : List Int) (v : Value) (er : Int) : Prop :=
  er = timesE l ∧ ((timesE l ≠ 0 ∧ v = .slice none 0 0) ∨ (timesE l = 0 ∧ ∃ x c, v = .slice x (l.length / 2) c ∧ Came w' x l))
set_option maxRecDepth 100000 in
set_option maxHeartbeats 2000000 in
theorem Pairs_any (a : Option Addr) (n cap : Nat) (l : List Int) (w : World) (hc : Came w a l) (hn : l.length = n) (hm : n ≤ maxLen) :
    Calls Try.prog 10 #[.slice a n cap] w fun e w' => ∃ (v : Value) (er : Int), e = .returned (.tuple #[v, .int .i64 er]) ∧ PairsIs w' l v er ∧ Below w.heap.size w w' := by
  have hm' : n ≤ 9223372036854775807 := by unfold maxLen at hm; omega
  have HC := Lib.hid hc
  have HM := Lib.hid hm
  have HN := Lib.hid hn
  clear hm hc hn
  by_cases h40 : 40 < n
  · have HE := Lib.hid (timesE_many (l := l) (by rw [HN.out]; exact h40))
    have h40' : (40 : Int) < (n : Int) := by omega
    have HB := Lib.hid (Below.refl w.heap.size w)
    go_enter Try.func10, Try.ntmps10
    go_wp2_with fail
    go_ret2
    exact ⟨_, _, rfl, ⟨HE.out.symm, .inl ⟨by rw [HE.out]; decide, rfl⟩⟩, HB.out⟩
  · have h40' : ¬ ((40 : Int) < (n : Int)) := by omega
    go_enter Try.func10, Try.ntmps10
    go_wp2_with fail
    refine (contains_any a n cap l _ HC.out HN.out HM.out).mono ?_
    rintro e w1 ⟨rfl, hb1⟩
    have HC1 := Lib.hid (HC.out.below hb1)
    have HB1 := Lib.hid hb1
    clear hb1
    cases hti : timesB l
    · have HE := Lib.hid (timesE_range (l := l) (by rw [HN.out]; exact h40) hti)
      have HB := HB1
      go_wp2_with fail
      go_ret2
      exact ⟨_, _, rfl, ⟨HE.out.symm, .inl ⟨by rw [HE.out]; decide, rfl⟩⟩, HB.out⟩
    · go_wp2_with fail
      refine (rise_any a n cap l _ HC1.out HN.out HM.out).mono ?_
      rintro e w2 ⟨rfl, hb2⟩
      have HC2 := Lib.hid (HC1.out.below hb2)
      have HB2 := Lib.hid (HB1.out.trans (hb2.mono HB1.out.size))
      clear hb2
      cases hup : upI l
      · have HE := Lib.hid (timesE_state (l := l) (by rw [HN.out]; exact h40) hti hup)
        have HB := HB2
        go_wp2_with fail
        go_ret2
        exact ⟨_, _, rfl, ⟨HE.out.symm, .inl ⟨by rw [HE.out]; decide, rfl⟩⟩, HB.out⟩
      · by_cases hod : n % 2 = 1
        · have HE := Lib.hid (timesE_form (l := l) (by rw [HN.out]; exact h40) hti hup (by rw [HN.out]; exact hod))
          have HB := HB2
          have hr1 : (n : Int) % 2 = 1 := by omega
          have hr2 : (n : Int).tmod 2 = 1 := by rw [Int.tmod_eq_emod_of_nonneg (by omega)]; omega
          clear hod
          go_wp2_with fail
          go_ret2
          exact ⟨_, _, rfl, ⟨HE.out.symm, .inl ⟨by rw [HE.out]; decide, rfl⟩⟩, HB.out⟩
        · obtain ⟨m, hnm⟩ : ∃ m, n = 2 * m := ⟨n / 2, by omega⟩
          have HE := Lib.hid (timesE_ok (l := l) (by rw [HN.out]; exact h40) hti hup (by rw [HN.out]; exact hod))
          have hr1 : (n : Int) % 2 = 0 := by omega
          have hr2 : (n : Int).tmod 2 = 0 := by rw [Int.tmod_eq_emod_of_nonneg (by omega)]; omega
          have hq1 : (n : Int) / 2 = (m : Int) := by omega
          have hq2 : (n : Int).tdiv 2 = (m : Int) := by rw [Int.tdiv_eq_ediv_of_nonneg (by omega)]; omega
          have HO := Lib.hid (fun h0 => HC2.out.open HN.out h0)
          have HNM := Lib.hid hnm
          have hmk := make_pers m (by omega)
          have HG0 := Lib.hid (made_pers w2 m (B := w2.heap.size) (Nat.le_refl _) (by omega))
          have HB3 := Lib.hid (HB2.out.alloc HB2.out.size (.cells (madeCells #[.int .i64 0, .int .i64 0] (m * 2)) 30))
          have HZ := Lib.hid HB2.out.size
          clear hod hnm
          go_wp2_with fail
          go_loopw [4, 5] (fun pv iv wr => ∃ k : Nat, k ≤ m ∧ iv = .int .i64 (2 * (k : Int)) ∧ GrowF wr w2.heap.size pv k (l.take (2 * k)) ∧ Below w2.heap.size w2 wr ∧ w2.heap.size < wr.heap.size) (fun _ iv _ => n - (intOf iv).toNat)
          case atStart => exact ⟨0, Nat.zero_le _, rfl, HG0.out, (Below.refl _ _).alloc (Nat.le_refl _) _, by simp⟩
          case round =>
            clear HG0 HB3 hmk
            obtain ⟨k, hk, rfl, hgr, hb, hsz⟩ := hrel
            have HG := Lib.hid hgr
            have HB := Lib.hid hb
            obtain ⟨x9, c9, hpv⟩ := hgr.slice
            subst hpv
            clear hgr hb
            by_cases hlt : k < m
            · have hlt' : 2 * (k : Int) < (n : Int) := by have := HNM.out; omega
              have hlt2 : 2 * (k : Int) + 1 < (n : Int) := by have := HNM.out; omega
              have hge : (0 : Int) ≤ 2 * (k : Int) := by omega
              have hge1 : (0 : Int) ≤ 2 * (k : Int) + 1 := by omega
              obtain ⟨b, off, rfl, hcell⟩ := HO.out (by have := HNM.out; omega)
              have x0 := hcell _ HB.out (2 * k) (by have := HNM.out; omega)
              have x1 := hcell _ HB.out (2 * k + 1) (by have := HNM.out; omega)
              clear hcell
              have htn : (2 * (k : Int)).toNat = 2 * k := by omega
              have htn1 : (2 * (k : Int) + 1).toNat = 2 * k + 1 := by omega
              have HT := Lib.hid (take_two (l := l) (k := k) (by rw [HN.out, HNM.out]; omega))
              generalize nth l (2 * k) = p at *
              generalize nth l (2 * k + 1) = q at *
              have hwr : IntKind.i64.wrap (2 * (k : Int) + 1) = 2 * (k : Int) + 1 := IntWalk.i64_in _ (by omega)
              go_wp2_with fail
              go_region_law (refine step_app_per _ rfl (.tmp 32) (.tmp 43) rfl w2.heap.size k (.slice x9 k c9) (l.take (2 * k)) (by simp [Act.eval]) (by first | exact HG.out.alloc _ | exact GrowF.alloc (w := wr.drew) HG.out _ | (trace_state; fail)) wr.heap.size 1 p q (by simp [Act.eval]) (by simp) (by simp) (by omega) (by simp; omega) ?_
                             intro v9 w9 hg9 hb9
                             obtain ⟨y9, d9, rfl⟩ := hg9.slice
                             have HG9 := Lib.hid hg9
                             have HB9 := Lib.hid hb9
                             clear hg9 hb9)
              all_goals go_wp2_with fail
              all_goals go_roundw
              all_goals first
                | (refine ⟨k + 1, by omega, uval (by omega), by rw [HT.out]; exact HG9.out, HB.out.trans (Below.trans ?_ HB9.out), by have := HB9.out.size; simp at this; omega⟩
                   first | exact ((Below.refl _ _).alloc (Nat.le_of_lt hsz) _).drew | exact (Below.refl _ _).drew.alloc (Nat.le_of_lt hsz) _)
                | (simp [intOf]; omega)
            · obtain rfl : k = m := by omega
              have hnl : ¬ (2 * (k : Int) < (n : Int)) := by have := HNM.out; omega
              have HL : Hid (l.length / 2 = k) := by unfold Hid; rw [HN.out, HNM.out]; omega
              have HX : Hid (Came wr x9 l) := by
                have ht : l.take (2 * k) = l := List.take_of_length_le (by rw [HN.out, HNM.out]; omega)
                rcases HG.out.form with ⟨h1, h2⟩ | ⟨g, c, h1, h2, h3⟩
                · exact .inl (by rw [HN.out, HNM.out]; omega)
                · rw [ht] at h3
                  cases h1
                  exact .inr ⟨g, 0, rfl, h3⟩
              go_wp2_with fail
              go_ret2
              exact ⟨.slice x9 k c9, 0, rfl, ⟨HE.out.symm, .inr ⟨HE.out, x9, c9, by rw [HL.out], HX.out⟩⟩, HB2.out.trans (HB.out.mono HB2.out.size)⟩
end Go.Proofs.Ytikkeidapgmcnaa
