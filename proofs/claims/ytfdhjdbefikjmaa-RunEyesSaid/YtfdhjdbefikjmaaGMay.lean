/-
  Promise O3: what somebody may do: the walk of May; lists held against each other (numbersAre); what must be in any case (runBegun).
-/
import Derived.Test.YtfdhjdbefikjmaaGStepR
namespace Go.Proofs.Ytfdhjdbefikjmaa
open Go.RowKit

/-- Of the first k actions those that somebody may do. -/
def mayL (R : Nat → Int) (who : Int) : Nat → List Int
  | 0 => []
  | k + 1 => mayL R who k ++ if refE R ((k : Int) + 1) who = 0 then [(k : Int) + 1] else []
theorem mayL_yes {R : Nat → Int} {who : Int} {k : Nat} (h : refE R ((k : Int) + 1) who = 0) : mayL R who (k + 1) = mayL R who k ++ [(k : Int) + 1] := by rw [mayL, if_pos h]
theorem mayL_no {R : Nat → Int} {who : Int} {k : Nat} (h : refE R ((k : Int) + 1) who ≠ 0) : mayL R who (k + 1) = mayL R who k := by rw [mayL, if_neg h, List.append_nil]
theorem mayL_len (R : Nat → Int) (who : Int) : ∀ k, (mayL R who k).length ≤ k
  | 0 => Nat.le_refl _
  | k + 1 => by
    have := mayL_len R who k
    rw [mayL, List.length_append]
    split <;> simp <;> omega
def mayE (R : Nat → Int) (who : Int) : Int := if runE R = 0 then (if perB who = true then 0 else 3) else runE R
theorem mayE_bad {R : Nat → Int} {who : Int} (h : runE R ≠ 0) : mayE R who = runE R := if_neg h
theorem mayE_range {R : Nat → Int} {who : Int} (h : runE R = 0) (h2 : perB who = false) : mayE R who = 3 := by unfold mayE; rw [if_pos h, h2]; rfl
theorem mayE_ok {R : Nat → Int} {who : Int} (h : runE R = 0) (h2 : perB who = true) : mayE R who = 0 := by unfold mayE; rw [if_pos h, h2]; rfl
theorem mayE_zero {R : Nat → Int} {who : Int} (h : mayE R who = 0) : runE R = 0 ∧ perB who = true := by
  by_cases h1 : runE R = 0
  · cases h2 : perB who
    · rw [mayE_range h1 h2] at h; omega
    · exact ⟨h1, rfl⟩
  · rw [mayE_bad h1] at h; exact absurd h h1
/-- What May answers. -/
def MayRet (w w' : World) (e : Ending) (R : Nat → Int) (who : Int) : Prop := ∃ v, e = .returned (.tuple #[v, .int .i64 (mayE R who)]) ∧ ((mayE R who ≠ 0 ∧ v = .slice none 0 0) ∨ (mayE R who = 0 ∧ Grow w' w.heap.size v (mayL R who 7))) ∧ Below w.heap.size w w'
theorem Grow.slice {w : World} {B : Nat} {v : Value} {l : List Int} (h : Grow w B v l) : ∃ x c, v = .slice x l.length c := by
  rcases h.2 with ⟨h1, h2⟩ | ⟨g, c, cur, h1, _⟩
  · exact ⟨none, 0, by rw [h1, h2]⟩
  · exact ⟨_, c, h1⟩
theorem Grow.mono {w : World} {B B' : Nat} {v : Value} {l : List Int} (h : Grow w B v l) (hB : B' ≤ B) : Grow w B' v l := by
  obtain ⟨q1, q2⟩ := h
  refine ⟨q1, q2.imp id ?_⟩
  rintro ⟨g, cap, cur, e1, e2, r⟩
  exact ⟨g, cap, cur, e1, by omega, r⟩
theorem Grow.below {w w' : World} {B : Nat} {v : Value} {l : List Int} (h : Grow w B v l) (hb : Below w.heap.size w w') : Grow w' B v l := by
  have hg : w.grownBy w' (none : Option Nat) := ⟨hb.os, hb.tape, hb.output, hb.size, fun k hk _ => hb.block k hk⟩
  cases hv : v.ownBlock with
  | none => exact World.ownsRow.kept h hg (.inl hv)
  | some k => exact World.ownsRow.kept h hg (.inr (by rw [hv]; exact Option.some_ne_none k))
set_option maxRecDepth 100000 in
set_option maxHeartbeats 2000000 in
theorem May_any (R : Nat → Int) (who : Int) (w : World) (hwf : WfR R) :
    Calls Try.prog 14 #[.agg #[.int .i64 (R 0), .int .i64 (R 1), .int .i64 (R 2), .int .i64 (R 3), .int .i64 (R 4), .int .i64 (R 5), .int .i64 (R 6), .int .i64 (R 7)], .int .i64 who] w fun e w' => MayRet w w' e R who := by
  have HWF := Lib.hid hwf
  have HB0 := Lib.hid (gbelow_box w (.cells #[.int .i64 (R 0), .int .i64 (R 1), .int .i64 (R 2), .int .i64 (R 3), .int .i64 (R 4), .int .i64 (R 5), .int .i64 (R 6), .int .i64 (R 7)] 24))
  have HX0 := Lib.hid (RBox.made w R 24)
  clear hwf
  by_cases he : runE R = 0
  · have HCK : Hid (∀ w, Calls Try.prog 10 #[.agg #[.int .i64 (R 0), .int .i64 (R 1), .int .i64 (R 2), .int .i64 (R 3), .int .i64 (R 4), .int .i64 (R 5), .int .i64 (R 6), .int .i64 (R 7)]] w fun e w' => e = .returned (.int .i64 0) ∧ Below w.heap.size w w') := by
      intro w
      have := Check_any R w HWF.out
      rw [he] at this
      exact this
    obtain ⟨h0, h6⟩ := runE_state he
    go_enter Try.func14, Try.ntmps14
    go_wp2_with fail
    refine (HCK.out _).mono ?_
    rintro e w1 ⟨rfl, hb1⟩
    have HX1 := Lib.hid (HX0.out.below hb1)
    have HB1 := Lib.hid (HB0.out.trans (hb1.mono HB0.out.size))
    clear hb1 HX0 HB0
    cases hp : perB who
    · have HE := Lib.hid (mayE_range (R := R) he hp)
      go_wp2_with (go_at_call 20; refine (isPerson_any _ _).mono ?_; rintro e w' ⟨rfl, h'⟩; subst w'; rw [hp])
      go_ret2
      refine ⟨.slice none 0 0, ?_, .inl ⟨?_, rfl⟩, HB1.out⟩
      · show Ending.returned (.tuple #[.slice none 0 0, .int .i64 3]) = _
        rw [HE.out]
      · rw [HE.out]; decide
    · have HE := Lib.hid (mayE_ok (R := R) he hp)
      go_wp2_with (go_at_call 20; refine (isPerson_any _ _).mono ?_; rintro e w' ⟨rfl, h'⟩; subst w'; rw [hp])
      go_loopw [7, 8] (fun pv iv wr => ∃ k : Nat, k ≤ 7 ∧ iv = .int .i64 ((k : Int) + 1) ∧ Grow wr w1.heap.size pv (mayL R who k) ∧ Below w1.heap.size w1 wr) (fun _ iv _ => 9 - (intOf iv).toNat)
      case atStart => exact ⟨0, by omega, rfl, Grow.nil _ _, Below.refl _ _⟩
      case round =>
        obtain ⟨k, hk, rfl, hg, hb⟩ := hrel
        have HG := Lib.hid hg
        have HB := Lib.hid hb
        obtain ⟨x9, c9, hpv⟩ := hg.slice
        subst hpv
        have HLN := Lib.hid (mayL_len R who k)
        clear hg hb
        by_cases hlt : k < 7
        · have hlt' : (k : Int) + 1 ≤ 7 := by omega
          have HK := Lib.hid (fun w => refusal_any R ((k : Int) + 1) who w HWF.out h0 h6)
          obtain ⟨c0, c1, c2, c3, c4, c5, c6, c7⟩ := (HX1.out.below HB.out).cells
          by_cases hr : refE R ((k : Int) + 1) who = 0
          · have HL := Lib.hid (mayL_yes hr)
            rw [hr] at HK
            clear hr
            go_wp2_with fail
            clear c0 c1 c2 c3 c4 c5 c6 c7
            refine (HK.out _).mono ?_
            rintro e w2 ⟨rfl, hb2⟩
            have HG2 := Lib.hid (HG.out.below hb2)
            have HB2 := Lib.hid (HB.out.trans (hb2.mono HB.out.size))
            clear hb2
            go_wp2_with (at_builtin; refine wpList_app _ rfl _ _ rfl w1.heap.size _ (mayL R who k) rfl ?hgw ⟨_, 0, none⟩ 1 ((k : Int) + 1) rfl ?hz ?hl ?hB ?_; rotate_right; intro v9 w9 hg9 hgr9 hd9 hs9; refine Hid.out ?_)
            case hgw => exact HG2.out.alloc _
            case hz => simp
            case hl => have := HLN.out; omega
            case hB => have := HB2.out.size; simp; omega
            have HB9 := Lib.hid ((HB2.out.alloc HB2.out.size _).grown hgr9 (by have := HB2.out.size; simp; omega) (fun i hi => (HG2.out.lt i hi).1))
            have HG9 := Lib.hid hg9
            clear hg9 hgr9 hd9 hs9
            refine Lib.hid ?_
            go_wp2_with fail
            go_roundw
            case rel => exact ⟨k + 1, by omega, by go_num, by rw [HL.out]; exact HG9.out, HB9.out⟩
            case measure => simp [intOf]; omega
          · have HL := Lib.hid (mayL_no hr)
            have heB : (refE R ((k : Int) + 1) who == 0) = false := by simpa using hr
            have heD : decide (refE R ((k : Int) + 1) who = 0) = false := decide_eq_false hr
            clear hr
            go_wp2_with fail
            clear c0 c1 c2 c3 c4 c5 c6 c7
            refine (HK.out _).mono ?_
            rintro e w2 ⟨rfl, hb2⟩
            have HG2 := Lib.hid (HG.out.below hb2)
            have HB2 := Lib.hid (HB.out.trans (hb2.mono HB.out.size))
            clear hb2
            go_wp2_with fail
            go_roundw
            case rel => exact ⟨k + 1, by omega, by go_num, by rw [HL.out]; exact HG2.out, HB2.out⟩
            case measure => simp [intOf]; omega
        · obtain rfl : k = 7 := by omega
          go_wp2_with fail
          go_ret2
          refine ⟨.slice x9 (mayL R who 7).length c9, ?_, .inr ⟨HE.out, HG.out.mono HB1.out.size⟩, HB1.out.trans (HB.out.mono HB1.out.size)⟩
          show Ending.returned (.tuple #[.slice x9 (mayL R who 7).length c9, .int .i64 0]) = _
          rw [HE.out]
  · have HE := Lib.hid (mayE_bad (who := who) he)
    have heB : (runE R != 0) = true := by simpa using he
    have heD : decide (runE R = 0) = false := decide_eq_false he
    have HN := Lib.hid he
    go_enter Try.func14, Try.ntmps14
    go_wp2_with fail
    refine (Check_any R _ HWF.out).mono ?_
    rintro e w1 ⟨rfl, hb1⟩
    have HB1 := Lib.hid (HB0.out.trans (hb1.mono HB0.out.size))
    clear hb1 HX0 HB0
    go_wp2_with fail
    go_ret2
    refine ⟨.slice none 0 0, ?_, .inl ⟨?_, rfl⟩, HB1.out⟩
    · show Ending.returned (.tuple #[.slice none 0 0, .int .i64 (runE R)]) = _
      rw [HE.out]
    · rw [HE.out]; exact HN.out
theorem same_zero (x y : Option Addr) (c d : Nat) (w : World) : Calls Try.prog 19 #[.slice x 0 c, .slice y 0 d] w fun e w' => e = .returned (.bool true) ∧ w' = w := by
  go_enter Try.func19, Try.ntmps19
  go_wp2
  refine wp_loop_rounds 1 ?_
  rw [rounds_succ]
  go_wp2
  go_ret
  exact ⟨rfl, rfl⟩
theorem grow_cases {w : World} {B : Nat} {v : Value} {l : List Int} (h : Grow w B v l) : (l.length = 0 ∧ ∃ x c, v = .slice x 0 c) ∨ ∃ g c, v = .slice (some ⟨g, 0, none⟩) l.length c ∧ B ≤ g ∧ At w g 0 l := by
  by_cases h0 : 0 < l.length
  · obtain ⟨g, c, e, hg, ho⟩ := h.own h0
    exact .inr ⟨g, c, e, hg, ho.at⟩
  · have hl : l.length = 0 := by omega
    refine .inl ⟨hl, ?_⟩
    obtain ⟨_, h2⟩ := h
    rcases h2 with ⟨rfl, _⟩ | ⟨g, c, cur, rfl, _⟩
    · exact ⟨_, _, rfl⟩
    · exact ⟨_, c, by rw [hl]⟩
/-- The reference's Same at two rows that hold one list. -/
theorem same_grow {w : World} {B B' : Nat} {v v' : Value} {l : List Int} (h : Grow w B v l) (h' : Grow w B' v' l) (hl : l.length ≤ 1000000000) :
    Calls Try.prog 19 #[v, v'] w fun r w' => r = .returned (.bool true) ∧ ∃ k, w' = w.drewN k := by
  rcases grow_cases h with ⟨hz, x, c, rfl⟩ | ⟨g, c, rfl, _, ha⟩ <;> rcases grow_cases h' with ⟨hz', x', c', rfl⟩ | ⟨g', c', rfl, _, ha'⟩
  · exact (same_zero x x' c c' w).mono fun _ _ ⟨e1, e2⟩ => ⟨e1, 0, e2⟩
  · rw [hz]
    exact (same_zero x _ c c' w).mono fun _ _ ⟨e1, e2⟩ => ⟨e1, 0, e2⟩
  · rw [hz']
    exact (same_zero _ x' c c' w).mono fun _ _ ⟨e1, e2⟩ => ⟨e1, 0, e2⟩
  · exact same_yes g 0 c g' 0 c' l w hl ha ha'
theorem gat2 (w : World) (x y : Int) : At (w.alloc (.cells #[.int .i64 x, .int .i64 y] 3)) w.heap.size 0 [x, y] := gat_lit w [x, y] _
def bgR : Nat → Int := doneR zeroR 1 5
theorem bg_wf : WfR bgR := by
  intro j hj
  match j, hj with
  | 0, _ => decide
  | 1, _ => decide
  | 2, _ => decide
  | 3, _ => decide
  | 4, _ => decide
  | 5, _ => decide
  | 6, _ => decide
  | 7, _ => decide
theorem zero_wf : WfR zeroR := fun _ _ => by unfold zeroR; decide
theorem bg_step : stepE zeroR 1 5 = 0 ∧ stepR zeroR 1 5 = bgR := by
  have h1 : runE zeroR = 0 := by decide
  have h2 : refE zeroR 1 5 = 0 := by decide
  exact ⟨(stepE_do h1 h2).2, (stepE_do h1 h2).1⟩
theorem bg_may : mayE bgR 5 = 0 ∧ mayL bgR 5 7 = [1, 7] := by decide
set_option maxRecDepth 100000 in
set_option maxHeartbeats 1000000 in
theorem begun_any (w : World) : Calls Try.prog 9 #[] w fun e w' => e = .returned (.bool true) ∧ Below w.heap.size w w' := by
  have HST : Hid (∀ w, Calls Try.prog 12 #[.agg #[.int .i64 0, .int .i64 0, .int .i64 0, .int .i64 0, .int .i64 0, .int .i64 0, .int .i64 0, .int .i64 0], .agg #[.int .i64 1, .int .i64 5]] w fun e w' => e = .returned (.tuple #[.agg #[.int .i64 (bgR 0), .int .i64 (bgR 1), .int .i64 (bgR 2), .int .i64 (bgR 3), .int .i64 (bgR 4), .int .i64 (bgR 5), .int .i64 (bgR 6), .int .i64 (bgR 7)], .int .i64 0]) ∧ Below w.heap.size w w') := by
    intro w
    have := Step_any zeroR 1 5 w zero_wf
    rw [bg_step.1, bg_step.2] at this
    exact this
  go_enter Try.func9, Try.ntmps9
  go_wp2_with fail
  refine (HST.out _).mono ?_
  rintro e w1 ⟨rfl, hb1⟩
  have HB1 := Lib.hid hb1
  have HB2 := Lib.hid (HB1.out.alloc HB1.out.size (.cells #[.int .i64 (bgR 0), .int .i64 (bgR 1), .int .i64 (bgR 2), .int .i64 (bgR 3), .int .i64 (bgR 4), .int .i64 (bgR 5), .int .i64 (bgR 6), .int .i64 (bgR 7)] 24))
  clear hb1
  go_wp2_with fail
  refine (May_any bgR 5 _ bg_wf).mono ?_
  rintro e w2 ⟨v, rfl, hv, hb2⟩
  rcases hv with ⟨h, _⟩ | ⟨_, hg⟩
  · exact absurd bg_may.1 h
  rw [bg_may.2] at hg
  rw [bg_may.1]
  have c0 : w2.cell? ⟨w1.heap.size, 0, none⟩ = some (.int .i64 1) := ((RBox.made w1 bgR 24).below hb2).2 0 (by omega)
  have HB3 := Lib.hid (HB2.out.trans (hb2.mono HB2.out.size))
  have HB4 := Lib.hid (HB3.out.alloc HB3.out.size (.cells #[.int .i64 1, .int .i64 7] 3))
  rcases grow_cases hg with ⟨h, _⟩ | ⟨g, c, rfl, _, ha⟩
  · exact absurd h (by decide)
  have HA := Lib.hid (ha.below (gbelow_box w2 (.cells #[.int .i64 1, .int .i64 7] 3)) ha.1)
  clear hg hb2 ha
  have e2 : ([1, 7] : List Int).length = 2 := rfl
  rw [e2]
  clear e2
  go_wp2_with fail
  refine (same_yes g 0 c w2.heap.size 0 2 [1, 7] _ (by decide) HA.out (gat2 w2 1 7)).mono ?_
  rintro e w3 ⟨rfl, k3, h3⟩
  have HB5 : Hid (Below w.heap.size w w3) := by rw [Hid, h3]; exact gbelow_dN HB4.out k3
  clear h3
  go_wp2_with fail
  go_ret
  exact ⟨rfl, HB5.out⟩
end Go.Proofs.Ytfdhjdbefikjmaa
