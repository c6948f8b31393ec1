/-
  The walk of the law HoursWhole: it answers true at every input.
-/
import Derived.Test.YtikkeidapgmcnaaUBegun
namespace Go.Proofs.Ytikkeidapgmcnaa
open Go.RowKit

/-- Has one of the first k days overtime, though it has less than Daily? -/
def shortB (l : List Int) (D W : Int) : Nat → Bool
  | 0 => false
  | k + 1 => shortB l D W k || (decide (0 < nth l k - usu l D W k) && decide (usu l D W k < D))
theorem shortB_left {l : List Int} {D W : Int} (hD : 0 ≤ D) (hW : 0 ≤ W) (h : ∀ j, j < l.length → 0 ≤ nth l j) : ∀ k, k ≤ l.length → shortB l D W k = true → leftW l D W k = 0
  | 0, _, hs => by cases hs
  | k + 1, hk, hs => by
    have ih := shortB_left hD hW h k (by omega)
    have hb := leftW_bd hD hW h k (by omega)
    have hn := h k (by omega)
    rw [shortB, Bool.or_eq_true, Bool.and_eq_true, decide_eq_true_iff, decide_eq_true_iff] at hs
    rw [leftW]
    unfold usu at hs
    rcases hs with hs | ⟨h1, h2⟩
    · have := ih hs
      omega
    · omega
theorem usL_nth {l : List Int} {D W : Int} {k : Nat} (hk : k < l.length) : nth (usL l D W l.length) k = usu l D W k := by
  unfold usL
  rw [nth_fillTo _ _ _ _ (Nat.le_refl _), if_pos hk]
theorem ovL_nth {l : List Int} {D W : Int} {k : Nat} (hk : k < l.length) : nth (ovL l D W l.length) k = nth l k - usu l D W k := by
  unfold ovL
  rw [nth_fillTo _ _ _ _ (Nat.le_refl _), if_pos hk]
set_option maxRecDepth 100000 in
set_option maxHeartbeats 2000000 in
theorem walk_hoursWhole (a : Option Addr) (n cap : Nat) (l : List Int) {w : World} (hc : Came w a l) (hn : l.length = n) (hm : n ≤ maxLen) (_ : ∀ x ∈ l, (Lit.int .i64 x).wf = true) (D W : Int) (_ : (Lit.int .i64 D).wf = true) (_ : (Lit.int .i64 W).wf = true) :
    Calls Try.prog 7 #[.slice a n cap, .agg #[.int .i64 D, .int .i64 W]] w fun e w' => e = .returned (.bool true) ∧ Below w.heap.size w w' := by
  have hm' : n ≤ 9223372036854775807 := by unfold maxLen at hm; omega
  have HM := Lib.hid hm
  have HN := Lib.hid hn
  have HB0 := Lib.hid (ubelow_box w (.cells #[.int .i64 D, .int .i64 W] 39))
  have HC := Lib.hid (hc.below HB0.out)
  clear hm hc hn
  go_enter Try.func7, Try.ntmps7
  go_wp2_with fail
  refine (begun_any _).mono ?_
  rintro e w1 ⟨rfl, hb⟩
  have HB1 := Lib.hid (HB0.out.trans (hb.mono HB0.out.size))
  have HC1 := Lib.hid (HC.out.below hb)
  have HX1 : Hid (OBox w1 w.heap.size D W) := OBox.below ⟨by simp, by simp⟩ hb (by simp)
  have hlt1 : w.heap.size < w1.heap.size := by have := hb.size; simp at this; omega
  clear hb
  obtain ⟨o0, o1⟩ := HX1.out
  go_wp2_with fail
  refine (Split_any a n cap l D W _ HC1.out HN.out HM.out).mono ?_
  rintro e w2 ⟨u, v, er, rfl, ⟨rfl, hp⟩, hb⟩
  have HB2 := Lib.hid (HB1.out.trans (hb.mono HB1.out.size))
  have HC2 := Lib.hid (HC1.out.below hb)
  have HX2 := Lib.hid (HX1.out.below hb hlt1)
  clear hb o0 o1
  obtain ⟨o0, o1⟩ := HX2.out
  rcases hp with ⟨hte, rfl, rfl⟩ | ⟨hte, g, h, rfl, rfl, h1, h2⟩
  · have hne : (splitE l D W != 0) = true := by simp [hte]
    have hne' : decide (splitE l D W = 0) = false := decide_eq_false hte
    go_wp2_with fail
    go_ret
    exact ⟨rfl, HB2.out⟩
  · obtain ⟨z1, z2, z3, z4, z5, z6⟩ := splitE_zero hte
    have H1 := Lib.hid h1
    have H2 := Lib.hid h2
    have hti := z2
    have HO := Lib.hid (fun h0 => HC2.out.open HN.out h0)
    have HG : Hid (∀ k, k < n → w2.cell? ⟨g, k, none⟩ = some (.int .i64 (usu l D W k))) := fun k hk => by
      have := (H1.out.2 k (by unfold usL; rw [fillTo_length, HN.out]; exact hk)).1
      rwa [usL_nth (by rw [HN.out]; exact hk)] at this
    have HH : Hid (∀ k, k < n → w2.cell? ⟨h, k, none⟩ = some (.int .i64 (nth l k - usu l D W k))) := fun k hk => by
      have := (H2.out.2 k (by unfold ovL; rw [fillTo_length, HN.out]; exact hk)).1
      rwa [ovL_nth (by rw [HN.out]; exact hk)] at this
    have hn7 : n ≤ 7 := by rw [← HN.out]; exact z1
    rw [hte, HN.out]
    clear h1 h2 H1 H2 z1 z2 hte
    go_wp2_with fail
    go_loopw [8, 9, 10] (fun sv lv iv wr => ∃ k : Nat, k ≤ n ∧ iv = .int .i64 k ∧ sv = .int .i64 (W - leftW l D W k) ∧ lv = .bool (shortB l D W k) ∧ ∃ q, wr = w2.drewN q) (fun _ _ iv _ => n - (intOf iv).toNat)
    case atStart => exact ⟨0, Nat.zero_le _, rfl, uval (by rw [leftW]; omega), rfl, 0, rfl⟩
    case round =>
      obtain ⟨k, hk, rfl, rfl, rfl, q, rfl⟩ := hrel
      have hlb := leftW_bd (l := l) (d := D) (W := W) z3 z5 (fun j hj => (timeB_iff.1 (timesB_nth hti hj)).1) k (by rw [HN.out]; exact hk)
      by_cases hlt : k < n
      · have hlt' : (k : Int) < (n : Int) := by omega
        obtain ⟨b, off, rfl, hcell⟩ := HO.out (by omega)
        have x0 := hcell _ (Below.refl _ _) k hlt
        have g0 := HG.out k hlt
        have h0 := HH.out k hlt
        clear hcell
        have hxk := timeB_iff.1 (timesB_nth hti (j := k) (by rw [HN.out]; exact hlt))
        have HSL : Hid (leftW l D W (k + 1) = leftW l D W k - usu l D W k) := rfl
        have HSS : Hid (shortB l D W (k + 1) = (shortB l D W k || (decide (0 < nth l k - usu l D W k) && decide (usu l D W k < D)))) := rfl
        have hu : 0 ≤ usu l D W k ∧ usu l D W k ≤ nth l k ∧ usu l D W k ≤ D ∧ usu l D W k ≤ leftW l D W k := by unfold usu; omega
        generalize usu l D W k = U at *
        generalize nth l k = X at *
        obtain ⟨V, hV⟩ : ∃ V, V = X - U := ⟨_, rfl⟩
        rw [← hV] at h0 HSS
        have t1 : decide (U < 0) = false := decide_eq_false (by omega)
        have t2 : decide (V < 0) = false := decide_eq_false (by omega)
        have t3 : (U + V != X) = false := by simp; omega
        have t3' : IntKind.i64.wrap (U + V) = X := by rw [IntWalk.i64_in _ (by omega)]; omega
        have t3'' : (X != X) = false := by simp
        have t4 : decide (D < U) = false := decide_eq_false (by omega)
        have HV := Lib.hid hV
        clear hV
        by_cases hs : shortB l D W k = true
        · rw [hs] at HSS ⊢
          go_wp2_with fail
          go_quiet (fail)
          go_wp2_with fail
          go_quiet (fail)
          go_wp2_with fail
          go_roundw
          case rel => exact ⟨k + 1, by omega, by go_num, uval (by rw [HSL.out]; omega), uvb (by rw [HSS.out]; simp [*]), _, rfl⟩
          case measure => simp [intOf]; omega
        · have hs' : shortB l D W k = false := by simpa using hs
          clear hs
          rw [hs'] at HSS ⊢
          by_cases h3 : 0 < V
          · have h3B : decide (0 < V) = true := decide_eq_true h3
            by_cases h4 : U < D
            · have h4B : decide (U < D) = true := decide_eq_true h4
              go_wp2_with fail
              go_quiet (fail)
              go_wp2_with fail
              go_quiet (fail)
              go_wp2_with fail
              go_roundw
              case rel => exact ⟨k + 1, by omega, by go_num, uval (by rw [HSL.out]; omega), uvb (by rw [HSS.out]; simp [*]), _, rfl⟩
              case measure => simp [intOf]; omega
            · have h4B : decide (U < D) = false := decide_eq_false h4
              go_wp2_with fail
              go_quiet (fail)
              go_wp2_with fail
              go_quiet (fail)
              go_wp2_with fail
              go_roundw
              case rel => exact ⟨k + 1, by omega, by go_num, uval (by rw [HSL.out]; omega), uvb (by rw [HSS.out]; simp [*]), _, rfl⟩
              case measure => simp [intOf]; omega
          · have h3B : decide (0 < V) = false := decide_eq_false h3
            go_wp2_with fail
            go_quiet (fail)
            go_wp2_with fail
            go_quiet (fail)
            go_wp2_with fail
            go_roundw
            case rel => exact ⟨k + 1, by omega, by go_num, uval (by rw [HSL.out]; omega), uvb (by rw [HSS.out]; simp [*]), _, rfl⟩
            case measure => simp [intOf]; omega
      · obtain rfl : k = n := by omega
        have HSh := Lib.hid (shortB_left (l := l) (D := D) (W := W) z3 z5 (fun j hj => (timeB_iff.1 (timesB_nth hti hj)).1) k (by rw [HN.out]; exact hk))
        generalize leftW l D W k = L at *
        by_cases hs : shortB l D W k = true
        · have := HSh.out hs
          subst this
          rw [hs]
          go_wp2_with fail
          go_ret
          exact ⟨uret_bool (by simp), ubelow_dN HB2.out _⟩
        · have hs' : shortB l D W k = false := by simpa using hs
          rw [hs']
          go_wp2_with fail
          go_ret
          exact ⟨uret_bool (by simp <;> omega), ubelow_dN HB2.out _⟩
end Go.Proofs.Ytikkeidapgmcnaa
