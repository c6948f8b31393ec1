/-
  The walks of the laws RunMay and RunOnly: each answers true at every input.
-/
import Derived.Test.YtfdhjdbefikjmaaLRunChecks
namespace Go.Proofs.Ytfdhjdbefikjmaa
open Go.RowKit

theorem numbersAre_bad (e : Int) (w : World) (he : e ≠ 0) : Calls Try.prog 16 #[.slice none 0 0, .int .i64 e, .int .i64 e, .slice none 0 0] w fun r w' => r = .returned (.bool true) ∧ w' = w := by
  have hb : (e != 0) = true := by simp [he]
  go_enter Try.func16, Try.ntmps16
  go_wp2_with (go_at_call 19; refine (same_zero _ _ _ _ _).mono ?_; rintro e w' ⟨rfl, rfl⟩)
  go_ret
  exact ⟨gret_bool (by simp), rfl⟩
theorem numbersAre_ok {w : World} {B B' : Nat} {v v' : Value} {l : List Int} (h : Grow w B v l) (h' : Grow w B' v' l) (hl : l.length ≤ 1000000000) :
    Calls Try.prog 16 #[v, .int .i64 0, .int .i64 0, v'] w fun r w' => r = .returned (.bool true) ∧ ∃ k, w' = w.drewN k := by
  have HS := Lib.hid (same_grow h h' hl)
  obtain ⟨x, c, rfl⟩ := h.slice
  obtain ⟨y, d, rfl⟩ := h'.slice
  clear h h' hl
  generalize l.length = n at *
  go_enter Try.func16, Try.ntmps16
  go_wp2_with (go_at_call 19; refine HS.out.mono ?_; rintro e w' ⟨rfl, k, rfl⟩)
  go_ret
  exact ⟨rfl, _, rfl⟩
theorem gbelow_of {w w' : World} (h : ∃ k, w' = w.drewN k) : Below w.heap.size w w' := by
  obtain ⟨k, rfl⟩ := h
  exact gbelow_dN (Below.refl _ _) k
/-- Is a number among those of a list? -/
def hasI (l : List Int) (x : Int) : Bool := l.any fun y => y == x
theorem hasI_no {l : List Int} {x : Int} (h : ∀ j, j < l.length → nth l j ≠ x) : hasI l x = false := by
  rw [Bool.eq_false_iff]
  intro e
  obtain ⟨y, hy, he⟩ := List.any_eq_true.1 e
  obtain ⟨j, hj, rfl⟩ := List.mem_iff_getElem.1 hy
  have := h j hj
  simp [nth, List.getD_eq_getElem?_getD, hj] at this
  exact this (by simpa using he)
theorem hasI_yes {l : List Int} {x : Int} {j : Nat} (hj : j < l.length) (h : nth l j = x) : hasI l x = true := by
  refine List.any_eq_true.2 ⟨l[j], List.getElem_mem hj, ?_⟩
  simp [nth, List.getD_eq_getElem?_getD, hj] at h
  simpa using h
set_option maxRecDepth 100000 in
set_option maxHeartbeats 1000000 in
theorem place_ref {w : World} {B : Nat} {v : Value} {l : List Int} (h : Grow w B v l) (x : Int) (hl : l.length ≤ 1000000000) :
    Calls Try.prog 18 #[v, .int .i64 x] w fun e w' => ∃ i : Int, e = .returned (.int .i64 i) ∧ decide (0 ≤ i) = hasI l x ∧ Below w.heap.size w w' := by
  have HG := Lib.hid h
  obtain ⟨xa, c, rfl⟩ := h.slice
  generalize hn : l.length = n at *
  have HN := Lib.hid hn
  clear h hn
  go_enter Try.func18, Try.ntmps18
  go_wp2_with fail
  go_loopw [5] (fun i wr => ∃ k : Nat, k ≤ n ∧ i = .int .i64 k ∧ (∀ j, j < k → nth l j ≠ x) ∧ ∃ q, wr = w.drewN q) (fun i _ => n - (intOf i).toNat)
  case atStart => exact ⟨0, Nat.zero_le _, rfl, fun j hj => by omega, 0, rfl⟩
  case round =>
    obtain ⟨k, hk, rfl, hall, q, rfl⟩ := hrel
    have HA := Lib.hid hall
    clear hall
    by_cases hlt : k < n
    · have hlt' : (k : Int) < (n : Int) := by omega
      rcases grow_cases HG.out with ⟨h0, _⟩ | ⟨g, c', he, _, ha⟩
      · rw [HN.out] at h0; omega
      · rw [HN.out] at he
        cases he
        have x0 := ha.2 k (by rw [HN.out]; exact hlt)
        rw [Nat.zero_add] at x0
        clear ha
        by_cases hx : nth l k = x
        · have HF := Lib.hid (hasI_yes (l := l) (j := k) (by rw [HN.out]; exact hlt) hx)
          have hxB : (nth l k == x) = true := by simpa using hx
          have hxD : decide (nth l k = x) = true := decide_eq_true hx
          clear hx
          go_wp2_with fail
          go_ret
          exact ⟨k, rfl, by rw [HF.out]; simp, gbelow_of ⟨_, rfl⟩⟩
        · have hxB : (nth l k == x) = false := by simpa using hx
          have hxD : decide (nth l k = x) = false := decide_eq_false hx
          have HX := Lib.hid hx
          clear hx
          go_wp2_with fail
          go_roundw
          case rel =>
            refine ⟨k + 1, by omega, by go_num, fun j hj => ?_, _, rfl⟩
            by_cases e : j = k
            · subst e; exact HX.out
            · exact HA.out j (by omega)
          case measure => simp [intOf]; omega
    · obtain rfl : n = k := by omega
      have HF := Lib.hid (hasI_no (l := l) (x := x) (fun j hj => HA.out j (by rw [HN.out] at hj; exact hj)))
      go_wp2_with fail
      go_ret
      exact ⟨-1, rfl, by rw [HF.out]; simp, gbelow_of ⟨_, rfl⟩⟩
/-- Of what May tells, a number is there just if the action may be done. -/
theorem hasI_may (R : Nat → Int) (who a : Int) : ∀ k : Nat, hasI (mayL R who k) a = decide (1 ≤ a ∧ a ≤ k ∧ refE R a who = 0)
  | 0 => by
    rw [show hasI (mayL R who 0) a = false from rfl]
    symm
    exact decide_eq_false (by omega)
  | k + 1 => by
    have ih := hasI_may R who a k
    rw [mayL]
    unfold hasI at *
    rw [List.any_append, ih]
    by_cases hr : refE R ((k : Int) + 1) who = 0
    · rw [if_pos hr, Bool.eq_iff_iff]
      simp only [List.any_cons, List.any_nil, Bool.or_false, Bool.or_eq_true, decide_eq_true_eq, beq_iff_eq]
      constructor
      · rintro (⟨h1, h2, h3⟩ | h)
        · exact ⟨h1, by omega, h3⟩
        · subst h; exact ⟨by omega, by omega, hr⟩
      · rintro ⟨h1, h2, h3⟩
        by_cases e : (k : Int) + 1 = a
        · exact .inr e
        · exact .inl ⟨h1, by omega, h3⟩
    · rw [if_neg hr, Bool.eq_iff_iff]
      simp only [List.any_nil, Bool.or_false, decide_eq_true_eq]
      constructor
      · rintro ⟨h1, h2, h3⟩; exact ⟨h1, by omega, h3⟩
      · rintro ⟨h1, h2, h3⟩
        have : a ≠ (k : Int) + 1 := fun e => hr (e ▸ h3)
        exact ⟨h1, by omega, h3⟩
set_option maxRecDepth 100000 in
set_option maxHeartbeats 2000000 in
theorem walk_runMay (R : Nat → Int) (hwf : WfR R) (who : Int) (_ : (Lit.int .i64 who).wf = true) {w : World} :
    Calls Try.prog 5 #[.agg #[.int .i64 (R 0), .int .i64 (R 1), .int .i64 (R 2), .int .i64 (R 3), .int .i64 (R 4), .int .i64 (R 5), .int .i64 (R 6), .int .i64 (R 7)], .int .i64 who] w fun e w' => e = .returned (.bool true) ∧ Below w.heap.size w w' := by
  have HB0 := Lib.hid (gbelow_box w (.cells #[.int .i64 (R 0), .int .i64 (R 1), .int .i64 (R 2), .int .i64 (R 3), .int .i64 (R 4), .int .i64 (R 5), .int .i64 (R 6), .int .i64 (R 7)] 24))
  have HX0 := Lib.hid (RBox.made w R 24)
  have HK1 := Lib.hid (fun w => May_any R who w hwf)
  have HK2 := Lib.hid (fun w => checkRun_ref R w)
  clear hwf
  go_enter Try.func5, Try.ntmps5
  go_wp2_with fail
  refine (HK1.out _).mono ?_
  rintro e w1 ⟨v, rfl, hv, hb1⟩
  have HB1 := Lib.hid (HB0.out.trans (hb1.mono HB0.out.size))
  have HX1 := Lib.hid (HX0.out.below hb1)
  obtain ⟨c0, c1, c2, c3, c4, c5, c6, c7⟩ := HX1.out.cells
  clear hb1 HB0 HX0 HK1
  rcases hv with ⟨hne, rfl⟩ | ⟨hz, hg⟩
  · by_cases he : runE R = 0
    · have hp : perB who = false := by
        cases h : perB who
        · rfl
        · exact absurd (mayE_ok he h) hne
      rw [mayE_range he hp]
      rw [he] at HK2
      clear hne he
      go_wp2_with fail
      clear c0 c1 c2 c3 c4 c5 c6 c7
      refine (HK2.out _).mono ?_
      rintro e w2 ⟨rfl, hb2⟩
      have HB2 := Lib.hid (HB1.out.trans (hb2.mono HB1.out.size))
      clear hb2 HB1 HX1
      go_wp2_with (go_at_call 15; refine (isPerson_ref _ _).mono ?_; rintro e w' ⟨rfl, h'⟩; subst w'; rw [hp])
      refine wp_loop_rounds 1 ?_
      rw [rounds_succ]
      go_wp2_with fail
      refine (begun_any _).mono ?_
      rintro e w4 ⟨rfl, hb4⟩
      have HB4 := Lib.hid (HB2.out.trans (hb4.mono HB2.out.size))
      clear hb4
      go_wp2_with fail
      refine (numbersAre_bad 3 _ (by decide)).mono ?_
      rintro e w5 ⟨rfl, h5⟩
      subst w5
      go_wp2_with fail
      go_ret
      exact ⟨rfl, HB4.out⟩
    · rw [mayE_bad he]
      have heB : (runE R == 0) = false := by simpa using he
      have heD : decide (runE R = 0) = false := decide_eq_false he
      have HNE := Lib.hid he
      clear hne he
      go_wp2_with fail
      clear c0 c1 c2 c3 c4 c5 c6 c7
      refine (HK2.out _).mono ?_
      rintro e w2 ⟨rfl, hb2⟩
      have HB2 := Lib.hid (HB1.out.trans (hb2.mono HB1.out.size))
      clear hb2 HB1 HX1
      go_wp2_with fail
      refine wp_loop_rounds 1 ?_
      rw [rounds_succ]
      go_wp2_with fail
      refine (begun_any _).mono ?_
      rintro e w4 ⟨rfl, hb4⟩
      have HB4 := Lib.hid (HB2.out.trans (hb4.mono HB2.out.size))
      clear hb4
      go_wp2_with fail
      refine (numbersAre_bad (runE R) _ HNE.out).mono ?_
      rintro e w5 ⟨rfl, h5⟩
      subst w5
      go_wp2_with fail
      go_ret
      exact ⟨rfl, HB4.out⟩
  · obtain ⟨he, hp⟩ := mayE_zero hz
    rw [hz]
    rw [he] at HK2
    have HG1 := Lib.hid hg
    have HE := Lib.hid he
    obtain ⟨xv, cv, rfl⟩ := hg.slice
    clear hz hg he
    go_wp2_with fail
    clear c0 c1 c2 c3 c4 c5 c6 c7
    refine (HK2.out _).mono ?_
    rintro e w2 ⟨rfl, hb2⟩
    have HB2 := Lib.hid (HB1.out.trans (hb2.mono HB1.out.size))
    have HX2 := Lib.hid (HX1.out.below hb2)
    have HG2 := Lib.hid (HG1.out.below hb2)
    clear hb2 HB1 HX1 HG1
    go_wp2_with (go_at_call 15; refine (isPerson_ref _ _).mono ?_; rintro e w' ⟨rfl, h'⟩; subst w'; rw [hp])
    go_loopw [8, 9] (fun pv iv wr => ∃ k : Nat, k ≤ 7 ∧ iv = .int .i64 ((k : Int) + 1) ∧ Grow wr w2.heap.size pv (mayL R who k) ∧ Below w2.heap.size w2 wr) (fun _ iv _ => 9 - (intOf iv).toNat)
    case atStart => exact ⟨0, by omega, rfl, Grow.nil _ _, Below.refl _ _⟩
    case round =>
      obtain ⟨k, hk, rfl, hg, hb⟩ := hrel
      have HG := Lib.hid hg
      have HB := Lib.hid hb
      obtain ⟨x9, c9, hpv⟩ := hg.slice
      subst hpv
      have HLN := Lib.hid (mayL_len R who k)
      clear hg hb
      by_cases hlt : k < 7
      · have hlt' : (k : Int) + 1 ≤ 7 := by omega
        have HK := Lib.hid (fun w => stepRun_ref R ((k : Int) + 1) who w)
        have HSE : Hid (stepE R ((k : Int) + 1) who = refE R ((k : Int) + 1) who) := by unfold Hid stepE; rw [if_pos HE.out]
        rw [HSE.out] at HK
        generalize stepR R ((k : Int) + 1) who = S at *
        obtain ⟨c0, c1, c2, c3, c4, c5, c6, c7⟩ := (HX2.out.below HB.out).cells
        by_cases hr : refE R ((k : Int) + 1) who = 0
        · have HL := Lib.hid (mayL_yes hr)
          rw [hr] at HK
          clear hr HSE
          go_wp2_with fail
          clear c0 c1 c2 c3 c4 c5 c6 c7
          refine (HK.out _).mono ?_
          rintro e w3 ⟨rfl, hb3⟩
          have HG3 := Lib.hid ((HG.out.below hb3).alloc (.cells #[.int .i64 (S 0), .int .i64 (S 1), .int .i64 (S 2), .int .i64 (S 3), .int .i64 (S 4), .int .i64 (S 5), .int .i64 (S 6), .int .i64 (S 7)] 24))
          have HB3 := Lib.hid ((HB.out.trans (hb3.mono HB.out.size)).alloc (Nat.le_trans HB.out.size hb3.size) (.cells #[.int .i64 (S 0), .int .i64 (S 1), .int .i64 (S 2), .int .i64 (S 3), .int .i64 (S 4), .int .i64 (S 5), .int .i64 (S 6), .int .i64 (S 7)] 24))
          clear hb3
          go_wp2_with (at_builtin; refine wpList_app _ rfl _ _ rfl w2.heap.size _ (mayL R who k) rfl ?hgw ⟨_, 0, none⟩ 1 ((k : Int) + 1) rfl ?hz ?hl ?hB ?_; rotate_right; intro v9 w9 hg9 hgr9 hd9 hs9; refine Hid.out ?_)
          case hgw => exact HG3.out.alloc _
          case hz => simp
          case hl => have := HLN.out; omega
          case hB => have := HB3.out.size; simp at *; omega
          have HB9 := Lib.hid ((HB3.out.alloc HB3.out.size _).grown hgr9 (by have := HB3.out.size; simp at *; omega) (fun i hi => (HG3.out.lt i hi).1))
          have HG9 := Lib.hid hg9
          clear hg9 hgr9 hd9 hs9
          refine Lib.hid ?_
          go_wp2_with fail
          go_roundw
          case rel => exact ⟨k + 1, by omega, by go_num, by rw [HL.out]; exact HG9.out, HB9.out⟩
          case measure => simp [intOf]; omega
        · have HL := Lib.hid (mayL_no hr)
          have heB : (refE R ((k : Int) + 1) who == 0) = false := by simpa using hr
          have heD : decide (refE R ((k : Int) + 1) who = 0) = false := decide_eq_false hr
          clear hr HSE
          go_wp2_with fail
          clear c0 c1 c2 c3 c4 c5 c6 c7
          refine (HK.out _).mono ?_
          rintro e w3 ⟨rfl, hb3⟩
          have HG3 := Lib.hid ((HG.out.below hb3).alloc (.cells #[.int .i64 (S 0), .int .i64 (S 1), .int .i64 (S 2), .int .i64 (S 3), .int .i64 (S 4), .int .i64 (S 5), .int .i64 (S 6), .int .i64 (S 7)] 24))
          have HB3 := Lib.hid ((HB.out.trans (hb3.mono HB.out.size)).alloc (Nat.le_trans HB.out.size hb3.size) (.cells #[.int .i64 (S 0), .int .i64 (S 1), .int .i64 (S 2), .int .i64 (S 3), .int .i64 (S 4), .int .i64 (S 5), .int .i64 (S 6), .int .i64 (S 7)] 24))
          clear hb3
          go_wp2_with fail
          go_roundw
          case rel => exact ⟨k + 1, by omega, by go_num, by rw [HL.out]; exact HG3.out, HB3.out⟩
          case measure => simp [intOf]; omega
      · obtain rfl : k = 7 := by omega
        have HGV := Lib.hid (HG2.out.below HB.out)
        have HBE := Lib.hid (HB2.out.trans (HB.out.mono HB2.out.size))
        go_wp2_with fail
        refine (begun_any _).mono ?_
        rintro e w4 ⟨rfl, hb4⟩
        have HN := Lib.hid (numbersAre_ok (HGV.out.below hb4) (HG.out.below hb4) (by have := HLN.out; omega))
        have HB4 := Lib.hid (HBE.out.trans (hb4.mono HBE.out.size))
        clear hb4
        go_wp2_with fail
        refine HN.out.mono ?_
        rintro e w5 ⟨rfl, hq⟩
        have HB5 := Lib.hid (HB4.out.trans ((gbelow_of hq).mono HB4.out.size))
        clear hq
        go_wp2_with fail
        go_ret
        exact ⟨rfl, HB5.out⟩
theorem hasI_all {R : Nat → Int} {who a : Int} : hasI (mayL R who 7) a = decide (refE R a who = 0) := by
  rw [hasI_may, Bool.eq_iff_iff]
  simp only [decide_eq_true_eq]
  constructor
  · exact fun h => h.2.2
  · intro h
    have := (refE_zero h).1
    exact ⟨by omega, by omega, h⟩
set_option maxRecDepth 100000 in
set_option maxHeartbeats 2000000 in
theorem walk_runOnly (R : Nat → Int) (hwf : WfR R) (a who : Int) (_ : (Lit.int .i64 a).wf = true) (_ : (Lit.int .i64 who).wf = true) {w : World} :
    Calls Try.prog 8 #[.agg #[.int .i64 (R 0), .int .i64 (R 1), .int .i64 (R 2), .int .i64 (R 3), .int .i64 (R 4), .int .i64 (R 5), .int .i64 (R 6), .int .i64 (R 7)], .agg #[.int .i64 a, .int .i64 who]] w fun e w' => e = .returned (.bool true) ∧ Below w.heap.size w w' := by
  have HB0 := Lib.hid ((gbelow_box w (.cells #[.int .i64 (R 0), .int .i64 (R 1), .int .i64 (R 2), .int .i64 (R 3), .int .i64 (R 4), .int .i64 (R 5), .int .i64 (R 6), .int .i64 (R 7)] 24)).alloc (by simp) (.cells #[.int .i64 a, .int .i64 who] 30))
  have HX0 := Lib.hid (ABx.made w R a who)
  have HK1 := Lib.hid (fun w => May_any R who w hwf)
  have HK2 := Lib.hid (fun w => Step_any R a who w hwf)
  clear hwf
  go_enter Try.func8, Try.ntmps8
  go_wp2_with fail
  refine (begun_any _).mono ?_
  rintro e w1 ⟨rfl, hb1⟩
  have HB1 := Lib.hid (HB0.out.trans (hb1.mono HB0.out.size))
  have HX1 := Lib.hid (HX0.out.below hb1)
  obtain ⟨hr, _, a0, a1⟩ := HX1.out
  obtain ⟨c0, c1, c2, c3, c4, c5, c6, c7⟩ := hr.cells
  clear hb1 HB0 HX0 hr
  go_wp2_with fail
  clear c0 c1 c2 c3 c4 c5 c6 c7 a0 a1
  refine (HK1.out _).mono ?_
  rintro e w2 ⟨v, rfl, hv, hb2⟩
  have HB2 := Lib.hid (HB1.out.trans (hb2.mono HB1.out.size))
  have HX2 := Lib.hid (HX1.out.below hb2)
  obtain ⟨hr, _, a0, a1⟩ := HX2.out
  obtain ⟨c0, c1, c2, c3, c4, c5, c6, c7⟩ := hr.cells
  clear hb2 HB1 HX1 hr HK1
  rcases hv with ⟨hne, rfl⟩ | ⟨hz, hg⟩
  · have heB : (mayE R who != 0) = true := by simpa using hne
    have heD : decide (mayE R who = 0) = false := decide_eq_false hne
    go_wp2_with fail
    go_ret
    exact ⟨rfl, HB2.out⟩
  · obtain ⟨he, hp⟩ := mayE_zero hz
    rw [hz]
    have HG2 := Lib.hid hg
    obtain ⟨xv, cv, rfl⟩ := hg.slice
    have HLN := Lib.hid (mayL_len R who 7)
    have HL := Lib.hid (hasI_all (R := R) (who := who) (a := a))
    generalize mayL R who 7 = L at *
    clear hz hg hp
    go_wp2_with fail
    clear c0 c1 c2 c3 c4 c5 c6 c7 a0 a1
    by_cases hr : refE R a who = 0
    · rw [(stepE_do he hr).2] at HK2
      rw [decide_eq_true hr] at HL
      generalize stepR R a who = S at *
      refine (HK2.out _).mono ?_
      rintro e w3 ⟨rfl, hb3⟩
      have HB3 := Lib.hid ((HB2.out.trans (hb3.mono HB2.out.size)).alloc (Nat.le_trans HB2.out.size hb3.size) (.cells #[.int .i64 (S 0), .int .i64 (S 1), .int .i64 (S 2), .int .i64 (S 3), .int .i64 (S 4), .int .i64 (S 5), .int .i64 (S 6), .int .i64 (S 7)] 24))
      have HG3 := Lib.hid ((HG2.out.below hb3).alloc (.cells #[.int .i64 (S 0), .int .i64 (S 1), .int .i64 (S 2), .int .i64 (S 3), .int .i64 (S 4), .int .i64 (S 5), .int .i64 (S 6), .int .i64 (S 7)] 24))
      have HX3 := Lib.hid ((HX2.out.below hb3).below (gbelow_box w3 (.cells #[.int .i64 (S 0), .int .i64 (S 1), .int .i64 (S 2), .int .i64 (S 3), .int .i64 (S 4), .int .i64 (S 5), .int .i64 (S 6), .int .i64 (S 7)] 24)))
      obtain ⟨_, _, a0, a1⟩ := HX3.out
      clear hb3 hr he
      go_wp2_with fail
      refine (place_ref HG3.out a (by have := HLN.out; omega)).mono ?_
      rintro e w4 ⟨i, rfl, hi, hb4⟩
      have HB4 := Lib.hid (HB3.out.trans (hb4.mono HB3.out.size))
      rw [HL.out] at hi
      have hi' : 0 ≤ i := of_decide_eq_true hi
      clear hb4
      go_wp2_with fail
      go_ret
      exact ⟨rfl, HB4.out⟩
    · rw [(stepE_no he hr).1, (stepE_no he hr).2] at HK2
      rw [decide_eq_false hr] at HL
      have heB : (refE R a who == 0) = false := by simpa using hr
      have heD : decide (refE R a who = 0) = false := decide_eq_false hr
      generalize refE R a who = er at *
      refine (HK2.out _).mono ?_
      rintro e w3 ⟨rfl, hb3⟩
      have HB3 := Lib.hid ((HB2.out.trans (hb3.mono HB2.out.size)).alloc (Nat.le_trans HB2.out.size hb3.size) (.cells #[.int .i64 (R 0), .int .i64 (R 1), .int .i64 (R 2), .int .i64 (R 3), .int .i64 (R 4), .int .i64 (R 5), .int .i64 (R 6), .int .i64 (R 7)] 24))
      have HG3 := Lib.hid ((HG2.out.below hb3).alloc (.cells #[.int .i64 (R 0), .int .i64 (R 1), .int .i64 (R 2), .int .i64 (R 3), .int .i64 (R 4), .int .i64 (R 5), .int .i64 (R 6), .int .i64 (R 7)] 24))
      have HX3 := Lib.hid ((HX2.out.below hb3).below (gbelow_box w3 (.cells #[.int .i64 (R 0), .int .i64 (R 1), .int .i64 (R 2), .int .i64 (R 3), .int .i64 (R 4), .int .i64 (R 5), .int .i64 (R 6), .int .i64 (R 7)] 24)))
      have HS3 := Lib.hid (RBox.made w3 R 24)
      obtain ⟨_, _, a0, a1⟩ := HX3.out
      clear hb3 hr he
      go_wp2_with fail
      clear a0 a1
      refine (place_ref HG3.out a (by have := HLN.out; omega)).mono ?_
      rintro e w4 ⟨i, rfl, hi, hb4⟩
      have HB4 := Lib.hid (HB3.out.trans (hb4.mono HB3.out.size))
      rw [HL.out] at hi
      have hi' : ¬ 0 ≤ i := of_decide_eq_false hi
      obtain ⟨c0, c1, c2, c3, c4, c5, c6, c7⟩ := (HX3.out.1.below hb4).cells
      obtain ⟨d0, d1, d2, d3, d4, d5, d6, d7⟩ := (HS3.out.below hb4).cells
      have heq := eq_who w4 R
      clear hb4
      go_wp2_with fail
      go_ret
      exact ⟨gret_bool (by simp), HB4.out⟩
end Go.Proofs.Ytfdhjdbefikjmaa
